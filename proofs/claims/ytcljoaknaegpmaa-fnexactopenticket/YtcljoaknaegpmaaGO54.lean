import Derived.Test.YtcljoaknaegpmaaCcB
import Derived.Test.YtcljoaknaegpmaaRgV
import Derived.Test.YtcljoaknaegpmaaCcF
import Derived.Test.YtcljoaknaegpmaaApd
import Derived.Test.YtcljoaknaegpmaaCcH
import Derived.Maps.AppendAt
import Derived.Deep.RegionHeld3
import Derived.Test.YtcljoaknaegpmaaPzC
import Derived.Test.YtcljoaknaegpmaaGO53
import Derived.Test.YtcljoaknaegpmaaBase
import Derived.Test.YtcljoaknaegpmaaHelp
import Derived.Deep.DeepCutAuto
import Derived.Defers
import Derived.Recover
import Derived.RegionTactic
import Derived.Deep.MidRow
import Derived.Deep.Cut

/-
  The model's turning and quarter (written by gens/spc.py).
-/
namespace Go.Proofs.Ytcljoaknaegpmaa
open Go Go.RowKit

/-- Four places, each another one. -/
structure Ne4 (i j k l : Nat) : Prop where
  ij : i ≠ j
  ik : i ≠ k
  il : i ≠ l
  jk : j ≠ k
  jl : j ≠ l
  kl : k ≠ l
section
variable {ys : List Int} {i j k l n : Nat} (hn : ys.length = n) (ne : Ne4 i j k l) (s : Q4)
theorem set4_i {ys : List Int} {i j k l : Nat} (ne : Ne4 i j k l) (s : Q4) {x : Int} : (put4 ys i j k l s).set i x = put4 ys i j k l ⟨x, s.b, s.c, s.d⟩ := by
  unfold put4
  rw [List.set_comm _ _ (Ne.symm ne.il), List.set_comm _ _ (Ne.symm ne.ik), List.set_comm _ _ (Ne.symm ne.ij), List.set_set]
theorem set4_j {ys : List Int} {i j k l : Nat} (ne : Ne4 i j k l) (s : Q4) {x : Int} : (put4 ys i j k l s).set j x = put4 ys i j k l ⟨s.a, x, s.c, s.d⟩ := by
  unfold put4
  rw [List.set_comm _ _ (Ne.symm ne.jl), List.set_comm _ _ (Ne.symm ne.jk), List.set_set]
theorem set4_k {ys : List Int} {i j k l : Nat} (ne : Ne4 i j k l) (s : Q4) {x : Int} : (put4 ys i j k l s).set k x = put4 ys i j k l ⟨s.a, s.b, x, s.d⟩ := by
  unfold put4
  rw [List.set_comm _ _ (Ne.symm ne.kl), List.set_set]
theorem set4_l {ys : List Int} {i j k l : Nat} (_ : Ne4 i j k l) (s : Q4) {x : Int} : (put4 ys i j k l s).set l x = put4 ys i j k l ⟨s.a, s.b, s.c, x⟩ := by
  unfold put4
  rw [List.set_set]
theorem put4_i {ys : List Int} {i j k l n : Nat} (hn : ys.length = n) (ne : Ne4 i j k l) (s : Q4) (h : i < n) : (put4 ys i j k l s).getD i 0 = s.a := by
  unfold put4
  rw [getD_set_ne _ _ _ _ (Ne.symm ne.il), getD_set_ne _ _ _ _ (Ne.symm ne.ik), getD_set_ne _ _ _ _ (Ne.symm ne.ij), getD_set_self _ _ _ (by rw [hn]; exact h)]
theorem put4_j {ys : List Int} {i j k l n : Nat} (hn : ys.length = n) (ne : Ne4 i j k l) (s : Q4) (h : j < n) : (put4 ys i j k l s).getD j 0 = s.b := by
  unfold put4
  rw [getD_set_ne _ _ _ _ (Ne.symm ne.jl), getD_set_ne _ _ _ _ (Ne.symm ne.jk), getD_set_self _ _ _ (by rw [List.length_set, hn]; exact h)]
theorem put4_k {ys : List Int} {i j k l n : Nat} (hn : ys.length = n) (ne : Ne4 i j k l) (s : Q4) (h : k < n) : (put4 ys i j k l s).getD k 0 = s.c := by
  unfold put4
  rw [getD_set_ne _ _ _ _ (Ne.symm ne.kl), getD_set_self _ _ _ (by rw [List.length_set, List.length_set, hn]; exact h)]
theorem put4_l {ys : List Int} {i j k l n : Nat} (hn : ys.length = n) (_ : Ne4 i j k l) (s : Q4) (h : l < n) : (put4 ys i j k l s).getD l 0 = s.d := by
  unfold put4
  rw [getD_set_self _ _ _ (by rw [List.length_set, List.length_set, List.length_set, hn]; exact h)]
theorem put4_self {ys : List Int} {i j k l : Nat} (ne : Ne4 i j k l) : put4 ys i j k l (get4 ys i j k l) = ys := by
  refine eq_of_getD (put4_len _ _ _ _ _ _) (fun m hm => ?_)
  rw [put4_len] at hm
  by_cases h1 : l = m
  · subst h1; exact put4_l rfl ne _ hm
  by_cases h2 : k = m
  · subst h2; exact put4_k rfl ne _ hm
  by_cases h3 : j = m
  · subst h3; exact put4_j rfl ne _ hm
  by_cases h4 : i = m
  · subst h4; exact put4_i rfl ne _ hm
  unfold put4
  rw [getD_set_ne _ _ _ _ h1, getD_set_ne _ _ _ _ h2, getD_set_ne _ _ _ _ h3, getD_set_ne _ _ _ _ h4]
end
set_option maxHeartbeats 1000000 in
theorem left_any (w : World) (x : Int) (h : W4 x) (n : Nat) (h0 : 0 < n) (h1 : n < 32) : Calls Try.prog 94 #[.int .u32 x, .int .u64 (n : Int)] w fun e w' => ∃ v, e = .returned v ∧ Below w.heap.size w w' ∧ v = .int .u32 (lf x n) := by
  obtain ⟨x0, x1⟩ := h
  go_enter Try.func94, Try.ntmps94
  go_wp2
  go_ret
  exact ⟨_, rfl, Below.refl _ _, rfl⟩
theorem info16 : (Try.prog.info? 58).map (·.size) = some 16 := by kernel_rfl
theorem und16 : Try.prog.underlying 58 = some (.array 16 57) := by kernel_rfl
set_option maxRecDepth 100000 in
set_option maxHeartbeats 8000000 in
theorem l8Quarter_any (w : World) (ys : List Int) (hw : Ws ys) (hl0 : ys.length = 16) (x1 x2 x3 x4 : Nat) (hi : x1 < 16) (hj : x2 < 16) (hk : x3 < 16) (hll : x4 < 16) (ne : Ne4 x1 x2 x3 x4) :
    Calls Try.prog 72 #[ag .u32 ys, .int .i64 (x1 : Int), .int .i64 (x2 : Int), .int .i64 (x3 : Int), .int .i64 (x4 : Int)] w fun e w' => e = .returned (ag .u32 (qrL ys x1 x2 x3 x4)) ∧ Below w.heap.size w w' := by
  have B0 := blk_alloc w .u32 58 ys
  have n0 : Below w.heap.size w (w.alloc (.cells (ys.map (Value.int .u32)).toArray 58)) := (Below.refl _ _).alloc (Nat.le_refl _) _
  have z0 : (w.alloc (.cells (ys.map (Value.int .u32)).toArray 58)).heap.size = w.heap.size + 1 := by simp
  have HL := hide hl0
  have hl := hll
  clear hl0 hll
  have pi : (x1 : Int) < 16 := by omega
  have pj : (x2 : Int) < 16 := by omega
  have pk : (x3 : Int) < 16 := by omega
  have pl : (x4 : Int) < 16 := by omega
  have so := hw.get4 x1 x2 x3 x4
  have so1 := qH_ok so 16 12
  have L1 := fun u => hide (left_any u _ (xor_w4 so.2.2.2 (qA_w (get4 ys x1 x2 x3 x4))) 16 (by decide) (by decide))
  have L2 := fun u => hide (left_any u _ (xor_w4 so.2.1 (qC_w (get4 ys x1 x2 x3 x4) 16)) 12 (by decide) (by decide))
  have L3 := fun u => hide (left_any u _ (xor_w4 so1.2.2.2 (qA_w (qH (get4 ys x1 x2 x3 x4) 16 12))) 8 (by decide) (by decide))
  have L4 := fun u => hide (left_any u _ (xor_w4 so1.2.1 (qC_w (qH (get4 ys x1 x2 x3 x4) 16 12) 8)) 7 (by decide) (by decide))
  have hB : Blk (w.alloc (.cells (ys.map (Value.int .u32)).toArray 58)) w.heap.size .u32 (put4 ys x1 x2 x3 x4 (get4 ys x1 x2 x3 x4)) := by rw [put4_self ne]; exact B0
  have QE : Hid (qrL ys x1 x2 x3 x4 = put4 ys x1 x2 x3 x4 (qr (get4 ys x1 x2 x3 x4))) := rfl
  rw [QE.out]
  clear QE so so1
  obtain ⟨s0, hs0⟩ : ∃ s, s = get4 ys x1 x2 x3 x4 := ⟨_, rfl⟩
  rw [← hs0] at hB ⊢
  simp only [← hs0] at L1 L2 L3 L4
  clear hs0 hw B0
  obtain ⟨A, B, C, D⟩ := s0
  have E0 : Hid (qr ⟨A, B, C, D⟩ = ⟨qA (qH ⟨A, B, C, D⟩ 16 12), qB (qH ⟨A, B, C, D⟩ 16 12) 8 7, qC (qH ⟨A, B, C, D⟩ 16 12) 8, qD (qH ⟨A, B, C, D⟩ 16 12) 8⟩) := rfl
  rw [E0.out]
  clear E0
  have f1 : Hid ((A + B) % 4294967296 = qA ⟨A, B, C, D⟩) := rfl
  have f3 : Hid ((C + qD ⟨A, B, C, D⟩ 16) % 4294967296 = qC ⟨A, B, C, D⟩ 16) := rfl
  have f5 : Hid ((qA ⟨A, B, C, D⟩ + qB ⟨A, B, C, D⟩ 16 12) % 4294967296 = qA (qH ⟨A, B, C, D⟩ 16 12)) := rfl
  have f7 : Hid ((qC ⟨A, B, C, D⟩ 16 + qD (qH ⟨A, B, C, D⟩ 16 12) 8) % 4294967296 = qC (qH ⟨A, B, C, D⟩ 16 12) 8) := rfl
  have L1 : ∀ u, Hid (Calls Try.prog 94 #[.int .u32 (bits BinOp.xor IntKind.u32 D (qA ⟨A, B, C, D⟩)), .int .u64 16] u fun e w' => ∃ v, e = .returned v ∧ Below u.heap.size u w' ∧ v = .int .u32 (qD ⟨A, B, C, D⟩ 16)) := L1
  have L2 : ∀ u, Hid (Calls Try.prog 94 #[.int .u32 (bits BinOp.xor IntKind.u32 B (qC ⟨A, B, C, D⟩ 16)), .int .u64 12] u fun e w' => ∃ v, e = .returned v ∧ Below u.heap.size u w' ∧ v = .int .u32 (qB ⟨A, B, C, D⟩ 16 12)) := L2
  have L3 : ∀ u, Hid (Calls Try.prog 94 #[.int .u32 (bits BinOp.xor IntKind.u32 (qD ⟨A, B, C, D⟩ 16) (qA (qH ⟨A, B, C, D⟩ 16 12))), .int .u64 8] u fun e w' => ∃ v, e = .returned v ∧ Below u.heap.size u w' ∧ v = .int .u32 (qD (qH ⟨A, B, C, D⟩ 16 12) 8)) := L3
  have L4 : ∀ u, Hid (Calls Try.prog 94 #[.int .u32 (bits BinOp.xor IntKind.u32 (qB ⟨A, B, C, D⟩ 16 12) (qC (qH ⟨A, B, C, D⟩ 16 12) 8)), .int .u64 7] u fun e w' => ∃ v, e = .returned v ∧ Below u.heap.size u w' ∧ v = .int .u32 (qB (qH ⟨A, B, C, D⟩ 16 12) 8 7)) := L4
  generalize qA (qH ⟨A, B, C, D⟩ 16 12) = A2 at *
  generalize qB (qH ⟨A, B, C, D⟩ 16 12) 8 7 = B2 at *
  generalize qC (qH ⟨A, B, C, D⟩ 16 12) 8 = C2 at *
  generalize qD (qH ⟨A, B, C, D⟩ 16 12) 8 = D2 at *
  generalize qA ⟨A, B, C, D⟩ = A1 at *
  generalize qD ⟨A, B, C, D⟩ 16 = D1 at *
  generalize qC ⟨A, B, C, D⟩ 16 = C1 at *
  generalize qB ⟨A, B, C, D⟩ 16 12 = B1 at *
  have VY : Hid (ag .u32 ys = Value.agg (ys.map (Value.int .u32)).toArray) := rfl
  rw [VY.out]
  obtain ⟨vs0, hvs0⟩ : ∃ vs, vs = ys.map (Value.int .u32) := ⟨_, rfl⟩
  rw [← hvs0] at hB n0 z0 ⊢
  clear hvs0 VY
  go_enter Try.func72, Try.ntmps72
  go_upto_region 1 with fail
  generalize w.alloc (.cells vs0.toArray 58) = wa at *
  have n1 : Below wa.heap.size wa (wa.alloc (.cells #[.int .u32 0, .int .u32 0, .int .u32 0, .int .u32 0, .int .u32 0, .int .u32 0, .int .u32 0, .int .u32 0, .int .u32 0, .int .u32 0, .int .u32 0, .int .u32 0, .int .u32 0, .int .u32 0, .int .u32 0, .int .u32 0] 58)) := (Below.refl _ _).alloc (Nat.le_refl _) _
  have hZ := blk_z16 wa 58
  generalize wa.alloc (.cells #[.int .u32 0, .int .u32 0, .int .u32 0, .int .u32 0, .int .u32 0, .int .u32 0, .int .u32 0, .int .u32 0, .int .u32 0, .int .u32 0, .int .u32 0, .int .u32 0, .int .u32 0, .int .u32 0, .int .u32 0, .int .u32 0] 58) = wr0 at *
  rw [z0] at hZ
  replace hB := hB.up n1
  have hN := nxt n0 n1
  clear n0 n1 z0
  have cx : ∀ u, Below wr0.heap.size wr0 u → u.cell? ⟨w.heap.size, x1, none⟩ = some (.int .u32 A) := fun u hu => by
    have := (hB.up hu).cell (i := x1) (by rw [put4_len, HL.out]; exact hi)
    rw [put4_i HL.out ne ⟨A, B, C, D⟩ hi] at this
    exact this
  have cy : ∀ u, Below wr0.heap.size wr0 u → u.cell? ⟨w.heap.size, x2, none⟩ = some (.int .u32 B) := fun u hu => by
    have := (hB.up hu).cell (i := x2) (by rw [put4_len, HL.out]; exact hj)
    rw [put4_j HL.out ne ⟨A, B, C, D⟩ hj] at this
    exact this
  go_wp2_with fail
  refine region_store 9 _ (fun i => [Fact.eq (.int .i64 (x1 : Int)), Fact.eq (.int .i64 (x1 : Int)), Fact.eq (.pointer (some ⟨w.heap.size, x1, none⟩)), Fact.eq (.int .u32 A), Fact.eq (.int .i64 (x2 : Int)), Fact.eq (.pointer (some ⟨w.heap.size, x2, none⟩)), Fact.eq (.int .u32 B), Fact.eq (.int .u32 A1), Fact.eq (.pointer (some ⟨w.heap.size, x1, none⟩))].getD i Fact.no) (by kernel_rfl) (by kernel_rfl) rfl rfl ?_ ?_
  · skip
    intro i hi
    obtain rfl | rfl | rfl | rfl | rfl | rfl | rfl | rfl | rfl : i = 0 ∨ i = 1 ∨ i = 2 ∨ i = 3 ∨ i = 4 ∨ i = 5 ∨ i = 6 ∨ i = 7 ∨ i = 8 := by omega
    · refine step_pure rfl fun a u hb hw hf => ?_
      have e1 : a.tmps[1]?.getD undef = .int .i64 (x1 : Int) := gdv (hb.2.2 1 (by kernel_rfl))
      exact ⟨.int .i64 (x1 : Int), by simp [go_sem, e1], rfl⟩
    · refine step_pure rfl fun a u hb hw hf => ?_
      have e1 : a.tmps[1]?.getD undef = .int .i64 (x1 : Int) := gdv (hb.2.2 1 (by kernel_rfl))
      exact ⟨.int .i64 (x1 : Int), by simp [go_sem, e1], rfl⟩
    · refine step_pure rfl fun a u hb hw hf => ?_
      have e5 : a.tmps[5]?.getD undef = .pointer (some ⟨w.heap.size, 0, none⟩) := gdv (hb.2.2 5 (by kernel_rfl))
      have e12 : a.tmps[12]?.getD undef = .int .i64 (x1 : Int) := gdv (hf 1 12 (by kernel_rfl))
      exact ⟨.pointer (some ⟨w.heap.size, x1, none⟩), by simp [go_sem, e5, e12, pi], rfl⟩
    · refine step_pure rfl fun a u hb hw hf => ?_
      have e13 : a.tmps[13]?.getD undef = .pointer (some ⟨w.heap.size, x1, none⟩) := gdv (hf 2 13 (by kernel_rfl))
      have hc := cx _ hw
      exact ⟨.int .u32 A, by simp [go_sem, e13, hc], rfl⟩
    · refine step_pure rfl fun a u hb hw hf => ?_
      have e2 : a.tmps[2]?.getD undef = .int .i64 (x2 : Int) := gdv (hb.2.2 2 (by kernel_rfl))
      exact ⟨.int .i64 (x2 : Int), by simp [go_sem, e2], rfl⟩
    · refine step_pure rfl fun a u hb hw hf => ?_
      have e5 : a.tmps[5]?.getD undef = .pointer (some ⟨w.heap.size, 0, none⟩) := gdv (hb.2.2 5 (by kernel_rfl))
      have e15 : a.tmps[15]?.getD undef = .int .i64 (x2 : Int) := gdv (hf 4 15 (by kernel_rfl))
      exact ⟨.pointer (some ⟨w.heap.size, x2, none⟩), by simp [go_sem, e5, e15, pj], rfl⟩
    · refine step_pure rfl fun a u hb hw hf => ?_
      have e16 : a.tmps[16]?.getD undef = .pointer (some ⟨w.heap.size, x2, none⟩) := gdv (hf 5 16 (by kernel_rfl))
      have hc := cy _ hw
      exact ⟨.int .u32 B, by simp [go_sem, e16, hc], rfl⟩
    · refine step_pure rfl fun a u hb hw hf => ?_
      have e14 : a.tmps[14]?.getD undef = .int .u32 A := gdv (hf 3 14 (by kernel_rfl))
      have e17 : a.tmps[17]?.getD undef = .int .u32 B := gdv (hf 6 17 (by kernel_rfl))
      exact ⟨.int .u32 A1, by simp [go_sem, e14, e17, IntKind.wrap_u32', f1.out], rfl⟩
    · refine step_pure rfl fun a u hb hw hf => ?_
      have e5 : a.tmps[5]?.getD undef = .pointer (some ⟨w.heap.size, 0, none⟩) := gdv (hb.2.2 5 (by kernel_rfl))
      have e11 : a.tmps[11]?.getD undef = .int .i64 (x1 : Int) := gdv (hf 0 11 (by kernel_rfl))
      exact ⟨.pointer (some ⟨w.heap.size, x1, none⟩), by simp [go_sem, e5, e11, pi], rfl⟩
  intro a u hb hw hf
  have ep : a.tmps[19]?.getD undef = .pointer (some ⟨w.heap.size, x1, none⟩) := gdv (hf 8 19 (by kernel_rfl))
  have ev : a.tmps[18]?.getD undef = .int .u32 A1 := gdv (hf 7 18 (by kernel_rfl))
  have hcc := cx u hw
  have hff := (hB.up hw).free x1
  have hB' := (hB.up hw).store x1 A1
  rw [set4_i ne ⟨A, B, C, D⟩] at hB'
  have O2 := Only.setCell u w.heap.size x1 (.int .u32 A1)
  have hZ' := (hZ.up hw).of_block (O2.block (w.heap.size + 1) (by omega))
  have hN' := hN.trans ((hw.mono hN.size).trans (O2.below (Nat.le_refl _)))
  obtain ⟨vs, hvs⟩ : ∃ vs : Nat → Value, ∀ d, a.tmps.getD d undef = vs d := ⟨_, fun _ => rfl⟩
  have ea := puts_of (md := .any) (n := 88) (k := 9) (by kernel_rfl) rfl hb vs hvs
  unfold Oper.wp
  simp [go_sem, ep, ev, hcc, hff]
  rw [ea]
  clear ea hvs ep ev hf hb hcc hff cx cy hB hZ hN hw
  simp only [puts, Act.put, List.setIfInBounds_toArray, List.set_cons_succ, List.set_cons_zero]
  generalize u.setCell ⟨w.heap.size, x1, none⟩ (.int .u32 A1) = wr1 at *
  have hB := hB'
  have hZ := hZ'
  have hN := hN'
  clear O2 hB' hZ' hN'
  have cx : ∀ u, Below wr1.heap.size wr1 u → u.cell? ⟨w.heap.size, x4, none⟩ = some (.int .u32 D) := fun u hu => by
    have := (hB.up hu).cell (i := x4) (by rw [put4_len, HL.out]; exact hl)
    rw [put4_l HL.out ne ⟨A1, B, C, D⟩ hl] at this
    exact this
  have cy : ∀ u, Below wr1.heap.size wr1 u → u.cell? ⟨w.heap.size, x1, none⟩ = some (.int .u32 A1) := fun u hu => by
    have := (hB.up hu).cell (i := x1) (by rw [put4_len, HL.out]; exact hi)
    rw [put4_i HL.out ne ⟨A1, B, C, D⟩ hi] at this
    exact this
  go_wp2_with fail
  refine region_store 10 _ (fun i => [Fact.eq (.int .i64 (x4 : Int)), Fact.eq (.int .i64 (x4 : Int)), Fact.eq (.pointer (some ⟨w.heap.size, x4, none⟩)), Fact.eq (.int .u32 D), Fact.eq (.int .i64 (x1 : Int)), Fact.eq (.pointer (some ⟨w.heap.size, x1, none⟩)), Fact.eq (.int .u32 A1), Fact.eq (.int .u32 (bits BinOp.xor IntKind.u32 D A1)), Fact.eq (.int .u32 D1), Fact.eq (.pointer (some ⟨w.heap.size, x4, none⟩))].getD i Fact.no) (by kernel_rfl) (by kernel_rfl) rfl rfl ?_ ?_
  · skip
    intro i hi
    obtain rfl | rfl | rfl | rfl | rfl | rfl | rfl | rfl | rfl | rfl : i = 0 ∨ i = 1 ∨ i = 2 ∨ i = 3 ∨ i = 4 ∨ i = 5 ∨ i = 6 ∨ i = 7 ∨ i = 8 ∨ i = 9 := by omega
    · refine step_pure rfl fun a u hb hw hf => ?_
      have e4 : a.tmps[4]?.getD undef = .int .i64 (x4 : Int) := gdv (hb.2.2 4 (by kernel_rfl))
      exact ⟨.int .i64 (x4 : Int), by simp [go_sem, e4], rfl⟩
    · refine step_pure rfl fun a u hb hw hf => ?_
      have e4 : a.tmps[4]?.getD undef = .int .i64 (x4 : Int) := gdv (hb.2.2 4 (by kernel_rfl))
      exact ⟨.int .i64 (x4 : Int), by simp [go_sem, e4], rfl⟩
    · refine step_pure rfl fun a u hb hw hf => ?_
      have e5 : a.tmps[5]?.getD undef = .pointer (some ⟨w.heap.size, 0, none⟩) := gdv (hb.2.2 5 (by kernel_rfl))
      have e21 : a.tmps[21]?.getD undef = .int .i64 (x4 : Int) := gdv (hf 1 21 (by kernel_rfl))
      exact ⟨.pointer (some ⟨w.heap.size, x4, none⟩), by simp [go_sem, e5, e21, pl], rfl⟩
    · refine step_pure rfl fun a u hb hw hf => ?_
      have e22 : a.tmps[22]?.getD undef = .pointer (some ⟨w.heap.size, x4, none⟩) := gdv (hf 2 22 (by kernel_rfl))
      have hc := cx _ hw
      exact ⟨.int .u32 D, by simp [go_sem, e22, hc], rfl⟩
    · refine step_pure rfl fun a u hb hw hf => ?_
      have e1 : a.tmps[1]?.getD undef = .int .i64 (x1 : Int) := gdv (hb.2.2 1 (by kernel_rfl))
      exact ⟨.int .i64 (x1 : Int), by simp [go_sem, e1], rfl⟩
    · refine step_pure rfl fun a u hb hw hf => ?_
      have e5 : a.tmps[5]?.getD undef = .pointer (some ⟨w.heap.size, 0, none⟩) := gdv (hb.2.2 5 (by kernel_rfl))
      have e24 : a.tmps[24]?.getD undef = .int .i64 (x1 : Int) := gdv (hf 4 24 (by kernel_rfl))
      exact ⟨.pointer (some ⟨w.heap.size, x1, none⟩), by simp [go_sem, e5, e24, pi], rfl⟩
    · refine step_pure rfl fun a u hb hw hf => ?_
      have e25 : a.tmps[25]?.getD undef = .pointer (some ⟨w.heap.size, x1, none⟩) := gdv (hf 5 25 (by kernel_rfl))
      have hc := cy _ hw
      exact ⟨.int .u32 A1, by simp [go_sem, e25, hc], rfl⟩
    · refine step_pure rfl fun a u hb hw hf => ?_
      have e23 : a.tmps[23]?.getD undef = .int .u32 D := gdv (hf 3 23 (by kernel_rfl))
      have e26 : a.tmps[26]?.getD undef = .int .u32 A1 := gdv (hf 6 26 (by kernel_rfl))
      exact ⟨.int .u32 (bits BinOp.xor IntKind.u32 D A1), by simp [go_sem, e23, e26], rfl⟩
    · refine step_callv rfl 94 _ _ rfl (by kernel_rfl) fun a u hb hw hf => ?_
      have e27 : a.tmps.getD 27 undef = .int .u32 (bits BinOp.xor IntKind.u32 D A1) := hf 7 27 (by kernel_rfl)
      show Calls Try.prog 94 #[a.tmps.getD 27 undef, .int .u64 16] u _
      rw [e27]
      exact (L1 u).out
    · refine step_pure rfl fun a u hb hw hf => ?_
      have e5 : a.tmps[5]?.getD undef = .pointer (some ⟨w.heap.size, 0, none⟩) := gdv (hb.2.2 5 (by kernel_rfl))
      have e20 : a.tmps[20]?.getD undef = .int .i64 (x4 : Int) := gdv (hf 0 20 (by kernel_rfl))
      exact ⟨.pointer (some ⟨w.heap.size, x4, none⟩), by simp [go_sem, e5, e20, pl], rfl⟩
  intro a u hb hw hf
  have ep : a.tmps[29]?.getD undef = .pointer (some ⟨w.heap.size, x4, none⟩) := gdv (hf 9 29 (by kernel_rfl))
  have ev : a.tmps[28]?.getD undef = .int .u32 D1 := gdv (hf 8 28 (by kernel_rfl))
  have hcc := cx u hw
  have hff := (hB.up hw).free x4
  have hB' := (hB.up hw).store x4 D1
  rw [set4_l ne ⟨A1, B, C, D⟩] at hB'
  have O2 := Only.setCell u w.heap.size x4 (.int .u32 D1)
  have hZ' := (hZ.up hw).of_block (O2.block (w.heap.size + 1) (by omega))
  have hN' := hN.trans ((hw.mono hN.size).trans (O2.below (Nat.le_refl _)))
  obtain ⟨vs, hvs⟩ : ∃ vs : Nat → Value, ∀ d, a.tmps.getD d undef = vs d := ⟨_, fun _ => rfl⟩
  have ea := puts_of (md := .any) (n := 88) (k := 10) (by kernel_rfl) rfl hb vs hvs
  unfold Oper.wp
  simp [go_sem, ep, ev, hcc, hff]
  rw [ea]
  clear ea hvs ep ev hf hb hcc hff cx cy hB hZ hN hw
  simp only [puts, Act.put, List.setIfInBounds_toArray, List.set_cons_succ, List.set_cons_zero]
  generalize u.setCell ⟨w.heap.size, x4, none⟩ (.int .u32 D1) = wr2 at *
  have hB := hB'
  have hZ := hZ'
  have hN := hN'
  clear O2 hB' hZ' hN'
  have cx : ∀ u, Below wr2.heap.size wr2 u → u.cell? ⟨w.heap.size, x3, none⟩ = some (.int .u32 C) := fun u hu => by
    have := (hB.up hu).cell (i := x3) (by rw [put4_len, HL.out]; exact hk)
    rw [put4_k HL.out ne ⟨A1, B, C, D1⟩ hk] at this
    exact this
  have cy : ∀ u, Below wr2.heap.size wr2 u → u.cell? ⟨w.heap.size, x4, none⟩ = some (.int .u32 D1) := fun u hu => by
    have := (hB.up hu).cell (i := x4) (by rw [put4_len, HL.out]; exact hl)
    rw [put4_l HL.out ne ⟨A1, B, C, D1⟩ hl] at this
    exact this
  go_wp2_with fail
  refine region_store 9 _ (fun i => [Fact.eq (.int .i64 (x3 : Int)), Fact.eq (.int .i64 (x3 : Int)), Fact.eq (.pointer (some ⟨w.heap.size, x3, none⟩)), Fact.eq (.int .u32 C), Fact.eq (.int .i64 (x4 : Int)), Fact.eq (.pointer (some ⟨w.heap.size, x4, none⟩)), Fact.eq (.int .u32 D1), Fact.eq (.int .u32 C1), Fact.eq (.pointer (some ⟨w.heap.size, x3, none⟩))].getD i Fact.no) (by kernel_rfl) (by kernel_rfl) rfl rfl ?_ ?_
  · skip
    intro i hi
    obtain rfl | rfl | rfl | rfl | rfl | rfl | rfl | rfl | rfl : i = 0 ∨ i = 1 ∨ i = 2 ∨ i = 3 ∨ i = 4 ∨ i = 5 ∨ i = 6 ∨ i = 7 ∨ i = 8 := by omega
    · refine step_pure rfl fun a u hb hw hf => ?_
      have e3 : a.tmps[3]?.getD undef = .int .i64 (x3 : Int) := gdv (hb.2.2 3 (by kernel_rfl))
      exact ⟨.int .i64 (x3 : Int), by simp [go_sem, e3], rfl⟩
    · refine step_pure rfl fun a u hb hw hf => ?_
      have e3 : a.tmps[3]?.getD undef = .int .i64 (x3 : Int) := gdv (hb.2.2 3 (by kernel_rfl))
      exact ⟨.int .i64 (x3 : Int), by simp [go_sem, e3], rfl⟩
    · refine step_pure rfl fun a u hb hw hf => ?_
      have e5 : a.tmps[5]?.getD undef = .pointer (some ⟨w.heap.size, 0, none⟩) := gdv (hb.2.2 5 (by kernel_rfl))
      have e31 : a.tmps[31]?.getD undef = .int .i64 (x3 : Int) := gdv (hf 1 31 (by kernel_rfl))
      exact ⟨.pointer (some ⟨w.heap.size, x3, none⟩), by simp [go_sem, e5, e31, pk], rfl⟩
    · refine step_pure rfl fun a u hb hw hf => ?_
      have e32 : a.tmps[32]?.getD undef = .pointer (some ⟨w.heap.size, x3, none⟩) := gdv (hf 2 32 (by kernel_rfl))
      have hc := cx _ hw
      exact ⟨.int .u32 C, by simp [go_sem, e32, hc], rfl⟩
    · refine step_pure rfl fun a u hb hw hf => ?_
      have e4 : a.tmps[4]?.getD undef = .int .i64 (x4 : Int) := gdv (hb.2.2 4 (by kernel_rfl))
      exact ⟨.int .i64 (x4 : Int), by simp [go_sem, e4], rfl⟩
    · refine step_pure rfl fun a u hb hw hf => ?_
      have e5 : a.tmps[5]?.getD undef = .pointer (some ⟨w.heap.size, 0, none⟩) := gdv (hb.2.2 5 (by kernel_rfl))
      have e34 : a.tmps[34]?.getD undef = .int .i64 (x4 : Int) := gdv (hf 4 34 (by kernel_rfl))
      exact ⟨.pointer (some ⟨w.heap.size, x4, none⟩), by simp [go_sem, e5, e34, pl], rfl⟩
    · refine step_pure rfl fun a u hb hw hf => ?_
      have e35 : a.tmps[35]?.getD undef = .pointer (some ⟨w.heap.size, x4, none⟩) := gdv (hf 5 35 (by kernel_rfl))
      have hc := cy _ hw
      exact ⟨.int .u32 D1, by simp [go_sem, e35, hc], rfl⟩
    · refine step_pure rfl fun a u hb hw hf => ?_
      have e33 : a.tmps[33]?.getD undef = .int .u32 C := gdv (hf 3 33 (by kernel_rfl))
      have e36 : a.tmps[36]?.getD undef = .int .u32 D1 := gdv (hf 6 36 (by kernel_rfl))
      exact ⟨.int .u32 C1, by simp [go_sem, e33, e36, IntKind.wrap_u32', f3.out], rfl⟩
    · refine step_pure rfl fun a u hb hw hf => ?_
      have e5 : a.tmps[5]?.getD undef = .pointer (some ⟨w.heap.size, 0, none⟩) := gdv (hb.2.2 5 (by kernel_rfl))
      have e30 : a.tmps[30]?.getD undef = .int .i64 (x3 : Int) := gdv (hf 0 30 (by kernel_rfl))
      exact ⟨.pointer (some ⟨w.heap.size, x3, none⟩), by simp [go_sem, e5, e30, pk], rfl⟩
  intro a u hb hw hf
  have ep : a.tmps[38]?.getD undef = .pointer (some ⟨w.heap.size, x3, none⟩) := gdv (hf 8 38 (by kernel_rfl))
  have ev : a.tmps[37]?.getD undef = .int .u32 C1 := gdv (hf 7 37 (by kernel_rfl))
  have hcc := cx u hw
  have hff := (hB.up hw).free x3
  have hB' := (hB.up hw).store x3 C1
  rw [set4_k ne ⟨A1, B, C, D1⟩] at hB'
  have O2 := Only.setCell u w.heap.size x3 (.int .u32 C1)
  have hZ' := (hZ.up hw).of_block (O2.block (w.heap.size + 1) (by omega))
  have hN' := hN.trans ((hw.mono hN.size).trans (O2.below (Nat.le_refl _)))
  obtain ⟨vs, hvs⟩ : ∃ vs : Nat → Value, ∀ d, a.tmps.getD d undef = vs d := ⟨_, fun _ => rfl⟩
  have ea := puts_of (md := .any) (n := 88) (k := 9) (by kernel_rfl) rfl hb vs hvs
  unfold Oper.wp
  simp [go_sem, ep, ev, hcc, hff]
  rw [ea]
  clear ea hvs ep ev hf hb hcc hff cx cy hB hZ hN hw
  simp only [puts, Act.put, List.setIfInBounds_toArray, List.set_cons_succ, List.set_cons_zero]
  generalize u.setCell ⟨w.heap.size, x3, none⟩ (.int .u32 C1) = wr3 at *
  have hB := hB'
  have hZ := hZ'
  have hN := hN'
  clear O2 hB' hZ' hN'
  have cx : ∀ u, Below wr3.heap.size wr3 u → u.cell? ⟨w.heap.size, x2, none⟩ = some (.int .u32 B) := fun u hu => by
    have := (hB.up hu).cell (i := x2) (by rw [put4_len, HL.out]; exact hj)
    rw [put4_j HL.out ne ⟨A1, B, C1, D1⟩ hj] at this
    exact this
  have cy : ∀ u, Below wr3.heap.size wr3 u → u.cell? ⟨w.heap.size, x3, none⟩ = some (.int .u32 C1) := fun u hu => by
    have := (hB.up hu).cell (i := x3) (by rw [put4_len, HL.out]; exact hk)
    rw [put4_k HL.out ne ⟨A1, B, C1, D1⟩ hk] at this
    exact this
  go_wp2_with fail
  refine region_store 10 _ (fun i => [Fact.eq (.int .i64 (x2 : Int)), Fact.eq (.int .i64 (x2 : Int)), Fact.eq (.pointer (some ⟨w.heap.size, x2, none⟩)), Fact.eq (.int .u32 B), Fact.eq (.int .i64 (x3 : Int)), Fact.eq (.pointer (some ⟨w.heap.size, x3, none⟩)), Fact.eq (.int .u32 C1), Fact.eq (.int .u32 (bits BinOp.xor IntKind.u32 B C1)), Fact.eq (.int .u32 B1), Fact.eq (.pointer (some ⟨w.heap.size, x2, none⟩))].getD i Fact.no) (by kernel_rfl) (by kernel_rfl) rfl rfl ?_ ?_
  · skip
    intro i hi
    obtain rfl | rfl | rfl | rfl | rfl | rfl | rfl | rfl | rfl | rfl : i = 0 ∨ i = 1 ∨ i = 2 ∨ i = 3 ∨ i = 4 ∨ i = 5 ∨ i = 6 ∨ i = 7 ∨ i = 8 ∨ i = 9 := by omega
    · refine step_pure rfl fun a u hb hw hf => ?_
      have e2 : a.tmps[2]?.getD undef = .int .i64 (x2 : Int) := gdv (hb.2.2 2 (by kernel_rfl))
      exact ⟨.int .i64 (x2 : Int), by simp [go_sem, e2], rfl⟩
    · refine step_pure rfl fun a u hb hw hf => ?_
      have e2 : a.tmps[2]?.getD undef = .int .i64 (x2 : Int) := gdv (hb.2.2 2 (by kernel_rfl))
      exact ⟨.int .i64 (x2 : Int), by simp [go_sem, e2], rfl⟩
    · refine step_pure rfl fun a u hb hw hf => ?_
      have e5 : a.tmps[5]?.getD undef = .pointer (some ⟨w.heap.size, 0, none⟩) := gdv (hb.2.2 5 (by kernel_rfl))
      have e40 : a.tmps[40]?.getD undef = .int .i64 (x2 : Int) := gdv (hf 1 40 (by kernel_rfl))
      exact ⟨.pointer (some ⟨w.heap.size, x2, none⟩), by simp [go_sem, e5, e40, pj], rfl⟩
    · refine step_pure rfl fun a u hb hw hf => ?_
      have e41 : a.tmps[41]?.getD undef = .pointer (some ⟨w.heap.size, x2, none⟩) := gdv (hf 2 41 (by kernel_rfl))
      have hc := cx _ hw
      exact ⟨.int .u32 B, by simp [go_sem, e41, hc], rfl⟩
    · refine step_pure rfl fun a u hb hw hf => ?_
      have e3 : a.tmps[3]?.getD undef = .int .i64 (x3 : Int) := gdv (hb.2.2 3 (by kernel_rfl))
      exact ⟨.int .i64 (x3 : Int), by simp [go_sem, e3], rfl⟩
    · refine step_pure rfl fun a u hb hw hf => ?_
      have e5 : a.tmps[5]?.getD undef = .pointer (some ⟨w.heap.size, 0, none⟩) := gdv (hb.2.2 5 (by kernel_rfl))
      have e43 : a.tmps[43]?.getD undef = .int .i64 (x3 : Int) := gdv (hf 4 43 (by kernel_rfl))
      exact ⟨.pointer (some ⟨w.heap.size, x3, none⟩), by simp [go_sem, e5, e43, pk], rfl⟩
    · refine step_pure rfl fun a u hb hw hf => ?_
      have e44 : a.tmps[44]?.getD undef = .pointer (some ⟨w.heap.size, x3, none⟩) := gdv (hf 5 44 (by kernel_rfl))
      have hc := cy _ hw
      exact ⟨.int .u32 C1, by simp [go_sem, e44, hc], rfl⟩
    · refine step_pure rfl fun a u hb hw hf => ?_
      have e42 : a.tmps[42]?.getD undef = .int .u32 B := gdv (hf 3 42 (by kernel_rfl))
      have e45 : a.tmps[45]?.getD undef = .int .u32 C1 := gdv (hf 6 45 (by kernel_rfl))
      exact ⟨.int .u32 (bits BinOp.xor IntKind.u32 B C1), by simp [go_sem, e42, e45], rfl⟩
    · refine step_callv rfl 94 _ _ rfl (by kernel_rfl) fun a u hb hw hf => ?_
      have e46 : a.tmps.getD 46 undef = .int .u32 (bits BinOp.xor IntKind.u32 B C1) := hf 7 46 (by kernel_rfl)
      show Calls Try.prog 94 #[a.tmps.getD 46 undef, .int .u64 12] u _
      rw [e46]
      exact (L2 u).out
    · refine step_pure rfl fun a u hb hw hf => ?_
      have e5 : a.tmps[5]?.getD undef = .pointer (some ⟨w.heap.size, 0, none⟩) := gdv (hb.2.2 5 (by kernel_rfl))
      have e39 : a.tmps[39]?.getD undef = .int .i64 (x2 : Int) := gdv (hf 0 39 (by kernel_rfl))
      exact ⟨.pointer (some ⟨w.heap.size, x2, none⟩), by simp [go_sem, e5, e39, pj], rfl⟩
  intro a u hb hw hf
  have ep : a.tmps[48]?.getD undef = .pointer (some ⟨w.heap.size, x2, none⟩) := gdv (hf 9 48 (by kernel_rfl))
  have ev : a.tmps[47]?.getD undef = .int .u32 B1 := gdv (hf 8 47 (by kernel_rfl))
  have hcc := cx u hw
  have hff := (hB.up hw).free x2
  have hB' := (hB.up hw).store x2 B1
  rw [set4_j ne ⟨A1, B, C1, D1⟩] at hB'
  have O2 := Only.setCell u w.heap.size x2 (.int .u32 B1)
  have hZ' := (hZ.up hw).of_block (O2.block (w.heap.size + 1) (by omega))
  have hN' := hN.trans ((hw.mono hN.size).trans (O2.below (Nat.le_refl _)))
  obtain ⟨vs, hvs⟩ : ∃ vs : Nat → Value, ∀ d, a.tmps.getD d undef = vs d := ⟨_, fun _ => rfl⟩
  have ea := puts_of (md := .any) (n := 88) (k := 10) (by kernel_rfl) rfl hb vs hvs
  unfold Oper.wp
  simp [go_sem, ep, ev, hcc, hff]
  rw [ea]
  clear ea hvs ep ev hf hb hcc hff cx cy hB hZ hN hw
  simp only [puts, Act.put, List.setIfInBounds_toArray, List.set_cons_succ, List.set_cons_zero]
  generalize u.setCell ⟨w.heap.size, x2, none⟩ (.int .u32 B1) = wr4 at *
  have hB := hB'
  have hZ := hZ'
  have hN := hN'
  clear O2 hB' hZ' hN'
  have cx : ∀ u, Below wr4.heap.size wr4 u → u.cell? ⟨w.heap.size, x1, none⟩ = some (.int .u32 A1) := fun u hu => by
    have := (hB.up hu).cell (i := x1) (by rw [put4_len, HL.out]; exact hi)
    rw [put4_i HL.out ne ⟨A1, B1, C1, D1⟩ hi] at this
    exact this
  have cy : ∀ u, Below wr4.heap.size wr4 u → u.cell? ⟨w.heap.size, x2, none⟩ = some (.int .u32 B1) := fun u hu => by
    have := (hB.up hu).cell (i := x2) (by rw [put4_len, HL.out]; exact hj)
    rw [put4_j HL.out ne ⟨A1, B1, C1, D1⟩ hj] at this
    exact this
  go_wp2_with fail
  refine region_store 9 _ (fun i => [Fact.eq (.int .i64 (x1 : Int)), Fact.eq (.int .i64 (x1 : Int)), Fact.eq (.pointer (some ⟨w.heap.size, x1, none⟩)), Fact.eq (.int .u32 A1), Fact.eq (.int .i64 (x2 : Int)), Fact.eq (.pointer (some ⟨w.heap.size, x2, none⟩)), Fact.eq (.int .u32 B1), Fact.eq (.int .u32 A2), Fact.eq (.pointer (some ⟨w.heap.size, x1, none⟩))].getD i Fact.no) (by kernel_rfl) (by kernel_rfl) rfl rfl ?_ ?_
  · skip
    intro i hi
    obtain rfl | rfl | rfl | rfl | rfl | rfl | rfl | rfl | rfl : i = 0 ∨ i = 1 ∨ i = 2 ∨ i = 3 ∨ i = 4 ∨ i = 5 ∨ i = 6 ∨ i = 7 ∨ i = 8 := by omega
    · refine step_pure rfl fun a u hb hw hf => ?_
      have e1 : a.tmps[1]?.getD undef = .int .i64 (x1 : Int) := gdv (hb.2.2 1 (by kernel_rfl))
      exact ⟨.int .i64 (x1 : Int), by simp [go_sem, e1], rfl⟩
    · refine step_pure rfl fun a u hb hw hf => ?_
      have e1 : a.tmps[1]?.getD undef = .int .i64 (x1 : Int) := gdv (hb.2.2 1 (by kernel_rfl))
      exact ⟨.int .i64 (x1 : Int), by simp [go_sem, e1], rfl⟩
    · refine step_pure rfl fun a u hb hw hf => ?_
      have e5 : a.tmps[5]?.getD undef = .pointer (some ⟨w.heap.size, 0, none⟩) := gdv (hb.2.2 5 (by kernel_rfl))
      have e50 : a.tmps[50]?.getD undef = .int .i64 (x1 : Int) := gdv (hf 1 50 (by kernel_rfl))
      exact ⟨.pointer (some ⟨w.heap.size, x1, none⟩), by simp [go_sem, e5, e50, pi], rfl⟩
    · refine step_pure rfl fun a u hb hw hf => ?_
      have e51 : a.tmps[51]?.getD undef = .pointer (some ⟨w.heap.size, x1, none⟩) := gdv (hf 2 51 (by kernel_rfl))
      have hc := cx _ hw
      exact ⟨.int .u32 A1, by simp [go_sem, e51, hc], rfl⟩
    · refine step_pure rfl fun a u hb hw hf => ?_
      have e2 : a.tmps[2]?.getD undef = .int .i64 (x2 : Int) := gdv (hb.2.2 2 (by kernel_rfl))
      exact ⟨.int .i64 (x2 : Int), by simp [go_sem, e2], rfl⟩
    · refine step_pure rfl fun a u hb hw hf => ?_
      have e5 : a.tmps[5]?.getD undef = .pointer (some ⟨w.heap.size, 0, none⟩) := gdv (hb.2.2 5 (by kernel_rfl))
      have e53 : a.tmps[53]?.getD undef = .int .i64 (x2 : Int) := gdv (hf 4 53 (by kernel_rfl))
      exact ⟨.pointer (some ⟨w.heap.size, x2, none⟩), by simp [go_sem, e5, e53, pj], rfl⟩
    · refine step_pure rfl fun a u hb hw hf => ?_
      have e54 : a.tmps[54]?.getD undef = .pointer (some ⟨w.heap.size, x2, none⟩) := gdv (hf 5 54 (by kernel_rfl))
      have hc := cy _ hw
      exact ⟨.int .u32 B1, by simp [go_sem, e54, hc], rfl⟩
    · refine step_pure rfl fun a u hb hw hf => ?_
      have e52 : a.tmps[52]?.getD undef = .int .u32 A1 := gdv (hf 3 52 (by kernel_rfl))
      have e55 : a.tmps[55]?.getD undef = .int .u32 B1 := gdv (hf 6 55 (by kernel_rfl))
      exact ⟨.int .u32 A2, by simp [go_sem, e52, e55, IntKind.wrap_u32', f5.out], rfl⟩
    · refine step_pure rfl fun a u hb hw hf => ?_
      have e5 : a.tmps[5]?.getD undef = .pointer (some ⟨w.heap.size, 0, none⟩) := gdv (hb.2.2 5 (by kernel_rfl))
      have e49 : a.tmps[49]?.getD undef = .int .i64 (x1 : Int) := gdv (hf 0 49 (by kernel_rfl))
      exact ⟨.pointer (some ⟨w.heap.size, x1, none⟩), by simp [go_sem, e5, e49, pi], rfl⟩
  intro a u hb hw hf
  have ep : a.tmps[57]?.getD undef = .pointer (some ⟨w.heap.size, x1, none⟩) := gdv (hf 8 57 (by kernel_rfl))
  have ev : a.tmps[56]?.getD undef = .int .u32 A2 := gdv (hf 7 56 (by kernel_rfl))
  have hcc := cx u hw
  have hff := (hB.up hw).free x1
  have hB' := (hB.up hw).store x1 A2
  rw [set4_i ne ⟨A1, B1, C1, D1⟩] at hB'
  have O2 := Only.setCell u w.heap.size x1 (.int .u32 A2)
  have hZ' := (hZ.up hw).of_block (O2.block (w.heap.size + 1) (by omega))
  have hN' := hN.trans ((hw.mono hN.size).trans (O2.below (Nat.le_refl _)))
  obtain ⟨vs, hvs⟩ : ∃ vs : Nat → Value, ∀ d, a.tmps.getD d undef = vs d := ⟨_, fun _ => rfl⟩
  have ea := puts_of (md := .any) (n := 88) (k := 9) (by kernel_rfl) rfl hb vs hvs
  unfold Oper.wp
  simp [go_sem, ep, ev, hcc, hff]
  rw [ea]
  clear ea hvs ep ev hf hb hcc hff cx cy hB hZ hN hw
  simp only [puts, Act.put, List.setIfInBounds_toArray, List.set_cons_succ, List.set_cons_zero]
  generalize u.setCell ⟨w.heap.size, x1, none⟩ (.int .u32 A2) = wr5 at *
  have hB := hB'
  have hZ := hZ'
  have hN := hN'
  clear O2 hB' hZ' hN'
  have cx : ∀ u, Below wr5.heap.size wr5 u → u.cell? ⟨w.heap.size, x4, none⟩ = some (.int .u32 D1) := fun u hu => by
    have := (hB.up hu).cell (i := x4) (by rw [put4_len, HL.out]; exact hl)
    rw [put4_l HL.out ne ⟨A2, B1, C1, D1⟩ hl] at this
    exact this
  have cy : ∀ u, Below wr5.heap.size wr5 u → u.cell? ⟨w.heap.size, x1, none⟩ = some (.int .u32 A2) := fun u hu => by
    have := (hB.up hu).cell (i := x1) (by rw [put4_len, HL.out]; exact hi)
    rw [put4_i HL.out ne ⟨A2, B1, C1, D1⟩ hi] at this
    exact this
  go_wp2_with fail
  refine region_store 10 _ (fun i => [Fact.eq (.int .i64 (x4 : Int)), Fact.eq (.int .i64 (x4 : Int)), Fact.eq (.pointer (some ⟨w.heap.size, x4, none⟩)), Fact.eq (.int .u32 D1), Fact.eq (.int .i64 (x1 : Int)), Fact.eq (.pointer (some ⟨w.heap.size, x1, none⟩)), Fact.eq (.int .u32 A2), Fact.eq (.int .u32 (bits BinOp.xor IntKind.u32 D1 A2)), Fact.eq (.int .u32 D2), Fact.eq (.pointer (some ⟨w.heap.size, x4, none⟩))].getD i Fact.no) (by kernel_rfl) (by kernel_rfl) rfl rfl ?_ ?_
  · skip
    intro i hi
    obtain rfl | rfl | rfl | rfl | rfl | rfl | rfl | rfl | rfl | rfl : i = 0 ∨ i = 1 ∨ i = 2 ∨ i = 3 ∨ i = 4 ∨ i = 5 ∨ i = 6 ∨ i = 7 ∨ i = 8 ∨ i = 9 := by omega
    · refine step_pure rfl fun a u hb hw hf => ?_
      have e4 : a.tmps[4]?.getD undef = .int .i64 (x4 : Int) := gdv (hb.2.2 4 (by kernel_rfl))
      exact ⟨.int .i64 (x4 : Int), by simp [go_sem, e4], rfl⟩
    · refine step_pure rfl fun a u hb hw hf => ?_
      have e4 : a.tmps[4]?.getD undef = .int .i64 (x4 : Int) := gdv (hb.2.2 4 (by kernel_rfl))
      exact ⟨.int .i64 (x4 : Int), by simp [go_sem, e4], rfl⟩
    · refine step_pure rfl fun a u hb hw hf => ?_
      have e5 : a.tmps[5]?.getD undef = .pointer (some ⟨w.heap.size, 0, none⟩) := gdv (hb.2.2 5 (by kernel_rfl))
      have e59 : a.tmps[59]?.getD undef = .int .i64 (x4 : Int) := gdv (hf 1 59 (by kernel_rfl))
      exact ⟨.pointer (some ⟨w.heap.size, x4, none⟩), by simp [go_sem, e5, e59, pl], rfl⟩
    · refine step_pure rfl fun a u hb hw hf => ?_
      have e60 : a.tmps[60]?.getD undef = .pointer (some ⟨w.heap.size, x4, none⟩) := gdv (hf 2 60 (by kernel_rfl))
      have hc := cx _ hw
      exact ⟨.int .u32 D1, by simp [go_sem, e60, hc], rfl⟩
    · refine step_pure rfl fun a u hb hw hf => ?_
      have e1 : a.tmps[1]?.getD undef = .int .i64 (x1 : Int) := gdv (hb.2.2 1 (by kernel_rfl))
      exact ⟨.int .i64 (x1 : Int), by simp [go_sem, e1], rfl⟩
    · refine step_pure rfl fun a u hb hw hf => ?_
      have e5 : a.tmps[5]?.getD undef = .pointer (some ⟨w.heap.size, 0, none⟩) := gdv (hb.2.2 5 (by kernel_rfl))
      have e62 : a.tmps[62]?.getD undef = .int .i64 (x1 : Int) := gdv (hf 4 62 (by kernel_rfl))
      exact ⟨.pointer (some ⟨w.heap.size, x1, none⟩), by simp [go_sem, e5, e62, pi], rfl⟩
    · refine step_pure rfl fun a u hb hw hf => ?_
      have e63 : a.tmps[63]?.getD undef = .pointer (some ⟨w.heap.size, x1, none⟩) := gdv (hf 5 63 (by kernel_rfl))
      have hc := cy _ hw
      exact ⟨.int .u32 A2, by simp [go_sem, e63, hc], rfl⟩
    · refine step_pure rfl fun a u hb hw hf => ?_
      have e61 : a.tmps[61]?.getD undef = .int .u32 D1 := gdv (hf 3 61 (by kernel_rfl))
      have e64 : a.tmps[64]?.getD undef = .int .u32 A2 := gdv (hf 6 64 (by kernel_rfl))
      exact ⟨.int .u32 (bits BinOp.xor IntKind.u32 D1 A2), by simp [go_sem, e61, e64], rfl⟩
    · refine step_callv rfl 94 _ _ rfl (by kernel_rfl) fun a u hb hw hf => ?_
      have e65 : a.tmps.getD 65 undef = .int .u32 (bits BinOp.xor IntKind.u32 D1 A2) := hf 7 65 (by kernel_rfl)
      show Calls Try.prog 94 #[a.tmps.getD 65 undef, .int .u64 8] u _
      rw [e65]
      exact (L3 u).out
    · refine step_pure rfl fun a u hb hw hf => ?_
      have e5 : a.tmps[5]?.getD undef = .pointer (some ⟨w.heap.size, 0, none⟩) := gdv (hb.2.2 5 (by kernel_rfl))
      have e58 : a.tmps[58]?.getD undef = .int .i64 (x4 : Int) := gdv (hf 0 58 (by kernel_rfl))
      exact ⟨.pointer (some ⟨w.heap.size, x4, none⟩), by simp [go_sem, e5, e58, pl], rfl⟩
  intro a u hb hw hf
  have ep : a.tmps[67]?.getD undef = .pointer (some ⟨w.heap.size, x4, none⟩) := gdv (hf 9 67 (by kernel_rfl))
  have ev : a.tmps[66]?.getD undef = .int .u32 D2 := gdv (hf 8 66 (by kernel_rfl))
  have hcc := cx u hw
  have hff := (hB.up hw).free x4
  have hB' := (hB.up hw).store x4 D2
  rw [set4_l ne ⟨A2, B1, C1, D1⟩] at hB'
  have O2 := Only.setCell u w.heap.size x4 (.int .u32 D2)
  have hZ' := (hZ.up hw).of_block (O2.block (w.heap.size + 1) (by omega))
  have hN' := hN.trans ((hw.mono hN.size).trans (O2.below (Nat.le_refl _)))
  obtain ⟨vs, hvs⟩ : ∃ vs : Nat → Value, ∀ d, a.tmps.getD d undef = vs d := ⟨_, fun _ => rfl⟩
  have ea := puts_of (md := .any) (n := 88) (k := 10) (by kernel_rfl) rfl hb vs hvs
  unfold Oper.wp
  simp [go_sem, ep, ev, hcc, hff]
  rw [ea]
  clear ea hvs ep ev hf hb hcc hff cx cy hB hZ hN hw
  simp only [puts, Act.put, List.setIfInBounds_toArray, List.set_cons_succ, List.set_cons_zero]
  generalize u.setCell ⟨w.heap.size, x4, none⟩ (.int .u32 D2) = wr6 at *
  have hB := hB'
  have hZ := hZ'
  have hN := hN'
  clear O2 hB' hZ' hN'
  have cx : ∀ u, Below wr6.heap.size wr6 u → u.cell? ⟨w.heap.size, x3, none⟩ = some (.int .u32 C1) := fun u hu => by
    have := (hB.up hu).cell (i := x3) (by rw [put4_len, HL.out]; exact hk)
    rw [put4_k HL.out ne ⟨A2, B1, C1, D2⟩ hk] at this
    exact this
  have cy : ∀ u, Below wr6.heap.size wr6 u → u.cell? ⟨w.heap.size, x4, none⟩ = some (.int .u32 D2) := fun u hu => by
    have := (hB.up hu).cell (i := x4) (by rw [put4_len, HL.out]; exact hl)
    rw [put4_l HL.out ne ⟨A2, B1, C1, D2⟩ hl] at this
    exact this
  go_wp2_with fail
  refine region_store 9 _ (fun i => [Fact.eq (.int .i64 (x3 : Int)), Fact.eq (.int .i64 (x3 : Int)), Fact.eq (.pointer (some ⟨w.heap.size, x3, none⟩)), Fact.eq (.int .u32 C1), Fact.eq (.int .i64 (x4 : Int)), Fact.eq (.pointer (some ⟨w.heap.size, x4, none⟩)), Fact.eq (.int .u32 D2), Fact.eq (.int .u32 C2), Fact.eq (.pointer (some ⟨w.heap.size, x3, none⟩))].getD i Fact.no) (by kernel_rfl) (by kernel_rfl) rfl rfl ?_ ?_
  · skip
    intro i hi
    obtain rfl | rfl | rfl | rfl | rfl | rfl | rfl | rfl | rfl : i = 0 ∨ i = 1 ∨ i = 2 ∨ i = 3 ∨ i = 4 ∨ i = 5 ∨ i = 6 ∨ i = 7 ∨ i = 8 := by omega
    · refine step_pure rfl fun a u hb hw hf => ?_
      have e3 : a.tmps[3]?.getD undef = .int .i64 (x3 : Int) := gdv (hb.2.2 3 (by kernel_rfl))
      exact ⟨.int .i64 (x3 : Int), by simp [go_sem, e3], rfl⟩
    · refine step_pure rfl fun a u hb hw hf => ?_
      have e3 : a.tmps[3]?.getD undef = .int .i64 (x3 : Int) := gdv (hb.2.2 3 (by kernel_rfl))
      exact ⟨.int .i64 (x3 : Int), by simp [go_sem, e3], rfl⟩
    · refine step_pure rfl fun a u hb hw hf => ?_
      have e5 : a.tmps[5]?.getD undef = .pointer (some ⟨w.heap.size, 0, none⟩) := gdv (hb.2.2 5 (by kernel_rfl))
      have e69 : a.tmps[69]?.getD undef = .int .i64 (x3 : Int) := gdv (hf 1 69 (by kernel_rfl))
      exact ⟨.pointer (some ⟨w.heap.size, x3, none⟩), by simp [go_sem, e5, e69, pk], rfl⟩
    · refine step_pure rfl fun a u hb hw hf => ?_
      have e70 : a.tmps[70]?.getD undef = .pointer (some ⟨w.heap.size, x3, none⟩) := gdv (hf 2 70 (by kernel_rfl))
      have hc := cx _ hw
      exact ⟨.int .u32 C1, by simp [go_sem, e70, hc], rfl⟩
    · refine step_pure rfl fun a u hb hw hf => ?_
      have e4 : a.tmps[4]?.getD undef = .int .i64 (x4 : Int) := gdv (hb.2.2 4 (by kernel_rfl))
      exact ⟨.int .i64 (x4 : Int), by simp [go_sem, e4], rfl⟩
    · refine step_pure rfl fun a u hb hw hf => ?_
      have e5 : a.tmps[5]?.getD undef = .pointer (some ⟨w.heap.size, 0, none⟩) := gdv (hb.2.2 5 (by kernel_rfl))
      have e72 : a.tmps[72]?.getD undef = .int .i64 (x4 : Int) := gdv (hf 4 72 (by kernel_rfl))
      exact ⟨.pointer (some ⟨w.heap.size, x4, none⟩), by simp [go_sem, e5, e72, pl], rfl⟩
    · refine step_pure rfl fun a u hb hw hf => ?_
      have e73 : a.tmps[73]?.getD undef = .pointer (some ⟨w.heap.size, x4, none⟩) := gdv (hf 5 73 (by kernel_rfl))
      have hc := cy _ hw
      exact ⟨.int .u32 D2, by simp [go_sem, e73, hc], rfl⟩
    · refine step_pure rfl fun a u hb hw hf => ?_
      have e71 : a.tmps[71]?.getD undef = .int .u32 C1 := gdv (hf 3 71 (by kernel_rfl))
      have e74 : a.tmps[74]?.getD undef = .int .u32 D2 := gdv (hf 6 74 (by kernel_rfl))
      exact ⟨.int .u32 C2, by simp [go_sem, e71, e74, IntKind.wrap_u32', f7.out], rfl⟩
    · refine step_pure rfl fun a u hb hw hf => ?_
      have e5 : a.tmps[5]?.getD undef = .pointer (some ⟨w.heap.size, 0, none⟩) := gdv (hb.2.2 5 (by kernel_rfl))
      have e68 : a.tmps[68]?.getD undef = .int .i64 (x3 : Int) := gdv (hf 0 68 (by kernel_rfl))
      exact ⟨.pointer (some ⟨w.heap.size, x3, none⟩), by simp [go_sem, e5, e68, pk], rfl⟩
  intro a u hb hw hf
  have ep : a.tmps[76]?.getD undef = .pointer (some ⟨w.heap.size, x3, none⟩) := gdv (hf 8 76 (by kernel_rfl))
  have ev : a.tmps[75]?.getD undef = .int .u32 C2 := gdv (hf 7 75 (by kernel_rfl))
  have hcc := cx u hw
  have hff := (hB.up hw).free x3
  have hB' := (hB.up hw).store x3 C2
  rw [set4_k ne ⟨A2, B1, C1, D2⟩] at hB'
  have O2 := Only.setCell u w.heap.size x3 (.int .u32 C2)
  have hZ' := (hZ.up hw).of_block (O2.block (w.heap.size + 1) (by omega))
  have hN' := hN.trans ((hw.mono hN.size).trans (O2.below (Nat.le_refl _)))
  obtain ⟨vs, hvs⟩ : ∃ vs : Nat → Value, ∀ d, a.tmps.getD d undef = vs d := ⟨_, fun _ => rfl⟩
  have ea := puts_of (md := .any) (n := 88) (k := 9) (by kernel_rfl) rfl hb vs hvs
  unfold Oper.wp
  simp [go_sem, ep, ev, hcc, hff]
  rw [ea]
  clear ea hvs ep ev hf hb hcc hff cx cy hB hZ hN hw
  simp only [puts, Act.put, List.setIfInBounds_toArray, List.set_cons_succ, List.set_cons_zero]
  generalize u.setCell ⟨w.heap.size, x3, none⟩ (.int .u32 C2) = wr7 at *
  have hB := hB'
  have hZ := hZ'
  have hN := hN'
  clear O2 hB' hZ' hN'
  have cx : ∀ u, Below wr7.heap.size wr7 u → u.cell? ⟨w.heap.size, x2, none⟩ = some (.int .u32 B1) := fun u hu => by
    have := (hB.up hu).cell (i := x2) (by rw [put4_len, HL.out]; exact hj)
    rw [put4_j HL.out ne ⟨A2, B1, C2, D2⟩ hj] at this
    exact this
  have cy : ∀ u, Below wr7.heap.size wr7 u → u.cell? ⟨w.heap.size, x3, none⟩ = some (.int .u32 C2) := fun u hu => by
    have := (hB.up hu).cell (i := x3) (by rw [put4_len, HL.out]; exact hk)
    rw [put4_k HL.out ne ⟨A2, B1, C2, D2⟩ hk] at this
    exact this
  go_wp2_with fail
  refine region_store 10 _ (fun i => [Fact.eq (.int .i64 (x2 : Int)), Fact.eq (.int .i64 (x2 : Int)), Fact.eq (.pointer (some ⟨w.heap.size, x2, none⟩)), Fact.eq (.int .u32 B1), Fact.eq (.int .i64 (x3 : Int)), Fact.eq (.pointer (some ⟨w.heap.size, x3, none⟩)), Fact.eq (.int .u32 C2), Fact.eq (.int .u32 (bits BinOp.xor IntKind.u32 B1 C2)), Fact.eq (.int .u32 B2), Fact.eq (.pointer (some ⟨w.heap.size, x2, none⟩))].getD i Fact.no) (by kernel_rfl) (by kernel_rfl) rfl rfl ?_ ?_
  · skip
    intro i hi
    obtain rfl | rfl | rfl | rfl | rfl | rfl | rfl | rfl | rfl | rfl : i = 0 ∨ i = 1 ∨ i = 2 ∨ i = 3 ∨ i = 4 ∨ i = 5 ∨ i = 6 ∨ i = 7 ∨ i = 8 ∨ i = 9 := by omega
    · refine step_pure rfl fun a u hb hw hf => ?_
      have e2 : a.tmps[2]?.getD undef = .int .i64 (x2 : Int) := gdv (hb.2.2 2 (by kernel_rfl))
      exact ⟨.int .i64 (x2 : Int), by simp [go_sem, e2], rfl⟩
    · refine step_pure rfl fun a u hb hw hf => ?_
      have e2 : a.tmps[2]?.getD undef = .int .i64 (x2 : Int) := gdv (hb.2.2 2 (by kernel_rfl))
      exact ⟨.int .i64 (x2 : Int), by simp [go_sem, e2], rfl⟩
    · refine step_pure rfl fun a u hb hw hf => ?_
      have e5 : a.tmps[5]?.getD undef = .pointer (some ⟨w.heap.size, 0, none⟩) := gdv (hb.2.2 5 (by kernel_rfl))
      have e78 : a.tmps[78]?.getD undef = .int .i64 (x2 : Int) := gdv (hf 1 78 (by kernel_rfl))
      exact ⟨.pointer (some ⟨w.heap.size, x2, none⟩), by simp [go_sem, e5, e78, pj], rfl⟩
    · refine step_pure rfl fun a u hb hw hf => ?_
      have e79 : a.tmps[79]?.getD undef = .pointer (some ⟨w.heap.size, x2, none⟩) := gdv (hf 2 79 (by kernel_rfl))
      have hc := cx _ hw
      exact ⟨.int .u32 B1, by simp [go_sem, e79, hc], rfl⟩
    · refine step_pure rfl fun a u hb hw hf => ?_
      have e3 : a.tmps[3]?.getD undef = .int .i64 (x3 : Int) := gdv (hb.2.2 3 (by kernel_rfl))
      exact ⟨.int .i64 (x3 : Int), by simp [go_sem, e3], rfl⟩
    · refine step_pure rfl fun a u hb hw hf => ?_
      have e5 : a.tmps[5]?.getD undef = .pointer (some ⟨w.heap.size, 0, none⟩) := gdv (hb.2.2 5 (by kernel_rfl))
      have e81 : a.tmps[81]?.getD undef = .int .i64 (x3 : Int) := gdv (hf 4 81 (by kernel_rfl))
      exact ⟨.pointer (some ⟨w.heap.size, x3, none⟩), by simp [go_sem, e5, e81, pk], rfl⟩
    · refine step_pure rfl fun a u hb hw hf => ?_
      have e82 : a.tmps[82]?.getD undef = .pointer (some ⟨w.heap.size, x3, none⟩) := gdv (hf 5 82 (by kernel_rfl))
      have hc := cy _ hw
      exact ⟨.int .u32 C2, by simp [go_sem, e82, hc], rfl⟩
    · refine step_pure rfl fun a u hb hw hf => ?_
      have e80 : a.tmps[80]?.getD undef = .int .u32 B1 := gdv (hf 3 80 (by kernel_rfl))
      have e83 : a.tmps[83]?.getD undef = .int .u32 C2 := gdv (hf 6 83 (by kernel_rfl))
      exact ⟨.int .u32 (bits BinOp.xor IntKind.u32 B1 C2), by simp [go_sem, e80, e83], rfl⟩
    · refine step_callv rfl 94 _ _ rfl (by kernel_rfl) fun a u hb hw hf => ?_
      have e84 : a.tmps.getD 84 undef = .int .u32 (bits BinOp.xor IntKind.u32 B1 C2) := hf 7 84 (by kernel_rfl)
      show Calls Try.prog 94 #[a.tmps.getD 84 undef, .int .u64 7] u _
      rw [e84]
      exact (L4 u).out
    · refine step_pure rfl fun a u hb hw hf => ?_
      have e5 : a.tmps[5]?.getD undef = .pointer (some ⟨w.heap.size, 0, none⟩) := gdv (hb.2.2 5 (by kernel_rfl))
      have e77 : a.tmps[77]?.getD undef = .int .i64 (x2 : Int) := gdv (hf 0 77 (by kernel_rfl))
      exact ⟨.pointer (some ⟨w.heap.size, x2, none⟩), by simp [go_sem, e5, e77, pj], rfl⟩
  intro a u hb hw hf
  have ep : a.tmps[86]?.getD undef = .pointer (some ⟨w.heap.size, x2, none⟩) := gdv (hf 9 86 (by kernel_rfl))
  have ev : a.tmps[85]?.getD undef = .int .u32 B2 := gdv (hf 8 85 (by kernel_rfl))
  have hcc := cx u hw
  have hff := (hB.up hw).free x2
  have hB' := (hB.up hw).store x2 B2
  rw [set4_j ne ⟨A2, B1, C2, D2⟩] at hB'
  have O2 := Only.setCell u w.heap.size x2 (.int .u32 B2)
  have hZ' := (hZ.up hw).of_block (O2.block (w.heap.size + 1) (by omega))
  have hN' := hN.trans ((hw.mono hN.size).trans (O2.below (Nat.le_refl _)))
  obtain ⟨vs, hvs⟩ : ∃ vs : Nat → Value, ∀ d, a.tmps.getD d undef = vs d := ⟨_, fun _ => rfl⟩
  have ea := puts_of (md := .any) (n := 88) (k := 10) (by kernel_rfl) rfl hb vs hvs
  unfold Oper.wp
  simp [go_sem, ep, ev, hcc, hff]
  rw [ea]
  clear ea hvs ep ev hf hb hcc hff cx cy hB hZ hN hw
  simp only [puts, Act.put, List.setIfInBounds_toArray, List.set_cons_succ, List.set_cons_zero]
  generalize u.setCell ⟨w.heap.size, x2, none⟩ (.int .u32 B2) = wr8 at *
  have hB := hB'
  have hZ := hZ'
  have hN := hN'
  clear O2 hB' hZ' hN'
  have RG := (Seg.blk hB).range
  have L : Hid (((put4 ys x1 x2 x3 x4 ⟨A2, B2, C2, D2⟩).map (Value.int .u32)).length = 16) := by show _ = _; rw [List.length_map, put4_len]; exact HL.out
  have O := one_ints .u32 (put4 ys x1 x2 x3 x4 ⟨A2, B2, C2, D2⟩)
  obtain ⟨t0, H0⟩ := hZ
  have SR := setRow_heap wr8 (w.heap.size + 1) _ ((put4 ys x1 x2 x3 x4 ⟨A2, B2, C2, D2⟩).map (Value.int .u32)).toArray _ _ H0
  have SN : Below w.heap.size w (wr8.setRow (w.heap.size + 1) ((put4 ys x1 x2 x3 x4 ⟨A2, B2, C2, D2⟩).map (Value.int .u32)).toArray) := hN.trans ((only_setRow wr8 (w.heap.size + 1) _).below (by omega))
  have V : Hid (ag .u32 (put4 ys x1 x2 x3 x4 ⟨A2, B2, C2, D2⟩) = Value.agg ((put4 ys x1 x2 x3 x4 ⟨A2, B2, C2, D2⟩).map (Value.int .u32)).toArray) := rfl
  obtain ⟨vs', hv⟩ : ∃ v, v = (put4 ys x1 x2 x3 x4 ⟨A2, B2, C2, D2⟩).map (Value.int .u32) := ⟨_, rfl⟩
  rw [← hv] at RG L O SR SN V
  clear hv hB
  go_wp2_with (first
    | (refine wpList_load_mid rfl 58 (.tmp 5) rfl w.heap.size 0 rfl vs' (.array 16 57) RG und16 rfl (by rw [L.out]; exact info16) ?_)
    | (refine wpList_store_row rfl 58 (.tmp 10) (.tmp 87) rfl (w.heap.size + 1) vs'.toArray rfl rfl t0 _ H0 (by rw [List.size_toArray, L.out]; exact info16) (by rw [List.size_toArray, List.size_toArray, L.out]; rfl) O ?_))
  exact bodyPost_ret (v := .agg vs'.toArray) (results_cell_row Try.results72 _ _ (w.heap.size + 1) t0 vs'.toArray (0, 0) (.array 16 57) rfl SR und16 rfl (by rw [List.size_toArray, L.out]; exact info16)) rfl ⟨by rw [V.out], SN⟩
end Go.Proofs.Ytcljoaknaegpmaa

/-
  The model's StreamBlock (written by gens/ccf.py).
-/
namespace Go.Proofs.Ytcljoaknaegpmaa
open Go Go.RowKit

set_option maxHeartbeats 1000000 in
theorem fits_any (w : World) (a a' : Option Addr) (c c' : Nat) (key non : List Int) (ct : Int) : Calls Try.prog 35 #[.slice a key.length c, .int .i64 ct, .slice a' non.length c'] w fun e w' => e = .returned (.bool (fitB key ct non)) ∧ w' = w := by
  unfold fitB
  generalize key.length = n at *
  generalize non.length = m at *
  by_cases h : n = 32
  · subst h
    by_cases h' : m = 12
    · subst h'
      by_cases h1 : 0 ≤ ct
      · by_cases h2 : ct ≤ 4294967295
        · go_enter Try.func35, Try.ntmps35
          go_wp2
          go_ret
          exact ⟨by simp [h1, h2], rfl⟩
        · have q : decide (ct ≤ 4294967295) = false := by simpa using h2
          go_enter Try.func35, Try.ntmps35
          go_wp2
          go_ret
          exact ⟨by simp, rfl⟩
      · have q : decide (0 ≤ ct) = false := by simpa using h1
        go_enter Try.func35, Try.ntmps35
        go_wp2
        go_ret
        exact ⟨by simp, rfl⟩
    · have q : decide ((m : Int) = 12) = false := by simp; omega
      go_enter Try.func35, Try.ntmps35
      go_wp2
      go_ret
      exact ⟨by simp [h'] <;> omega, rfl⟩
  · have q : decide ((n : Int) = 32) = false := by simp; omega
    go_enter Try.func35, Try.ntmps35
    go_wp2
    go_ret
    exact ⟨by simp [h], rfl⟩
/-- The columns, and the slanting lines, one behind the other. -/
def clA (ys : List Int) : Nat → List Int
  | 0 => ys
  | i + 1 => qrL (clA ys i) i (4 + i) (8 + i) (12 + i)
def clB (ys : List Int) : Nat → List Int
  | 0 => ys
  | i + 1 => qrL (clB ys i) i (4 + (i + 1) % 4) (8 + (i + 2) % 4) (12 + (i + 3) % 4)
theorem clA_len (ys : List Int) : ∀ i, (clA ys i).length = ys.length
  | 0 => rfl
  | i + 1 => by rw [clA, qrL_len]; exact clA_len ys i
theorem clB_len (ys : List Int) : ∀ i, (clB ys i).length = ys.length
  | 0 => rfl
  | i + 1 => by rw [clB, qrL_len]; exact clB_len ys i
theorem clA_ws {ys : List Int} (h : Ws ys) : ∀ i, Ws (clA ys i)
  | 0 => h
  | i + 1 => (clA_ws h i).qr _ _ _ _
theorem clB_ws {ys : List Int} (h : Ws ys) : ∀ i, Ws (clB ys i)
  | 0 => h
  | i + 1 => (clB_ws h i).qr _ _ _ _
theorem dbl_cl (ys : List Int) : clB (clA ys 4) 4 = dbl ys := by
  unfold dbl
  simp only [clA, clB, Nat.zero_add, Nat.reduceAdd, Nat.reduceMod, Nat.add_zero]
/-- The bytes of n words. -/
def oW (v : Int) : List Int := [v % 256, v / 256 % 256, v / 65536 % 256, v / 16777216]
def oL (st rs : List Int) : Nat → List Int
  | 0 => []
  | n + 1 => oL st rs n ++ oW ((rs.getD n 0 + st.getD n 0) % 4294967296)
theorem oL_len (st rs : List Int) : ∀ n, (oL st rs n).length = 4 * n
  | 0 => rfl
  | n + 1 => by rw [oL, List.length_append, oL_len st rs n]; rfl
theorem fill_succ (f : Nat → Int) (n : Nat) : fill f (n + 1) = fill f n ++ [f n] := by unfold fill; rw [List.range_succ, List.map_append]; rfl
theorem oL_fill (st rs : List Int) : ∀ n, oL st rs n = fill (stF st rs) (4 * n)
  | 0 => rfl
  | n + 1 => by
    rw [oL, oL_fill st rs n, show 4 * (n + 1) = 4 * n + 1 + 1 + 1 + 1 by omega, fill_succ, fill_succ, fill_succ, fill_succ]
    have e : ∀ j, j < 4 → stF st rs (4 * n + j) = (rs.getD n 0 + st.getD n 0) % 4294967296 / 2 ^ (8 * j) % 256 := fun j hj => by
      unfold stF
      rw [show (4 * n + j) / 4 = n by omega, show (4 * n + j) % 4 = j by omega, Int.add_comm]
    have e0 := e 0 (by decide)
    have e1 := e 1 (by decide)
    have e2 := e 2 (by decide)
    have e3 := e 3 (by decide)
    rw [Nat.add_zero] at e0
    rw [show 4 * n + 1 + 1 = 4 * n + 2 by omega, show 4 * n + 2 + 1 = 4 * n + 3 by omega, e0, e1, e2, e3]
    have v0 : 0 ≤ (rs.getD n 0 + st.getD n 0) % 4294967296 ∧ (rs.getD n 0 + st.getD n 0) % 4294967296 < 4294967296 := ⟨by omega, by omega⟩
    generalize (rs.getD n 0 + st.getD n 0) % 4294967296 = v at *
    have e4 : v / 16777216 % 256 = v / 16777216 := by omega
    unfold oW
    simp [e4]
theorem wsF_set (ys : List Int) (c : Int) (xs : List Int) (pl : Nat) (h : 12 < pl) : ∀ k, wsF (ys.set 12 c) pl xs k = (wsF ys pl xs k).set 12 c
  | 0 => rfl
  | k + 1 => by rw [wsF, wsF, wsF_set ys c xs pl h k, List.set_comm _ _ (by omega)]
set_option maxRecDepth 100000 in
set_option maxHeartbeats 8000000 in
theorem specBlock_core (w : World) (g : Nat) (a : Option Addr) (c : Nat) (key : List Int) (hr : Rd w g a .u8 key) (hb : Byt key) (hl : key.length = 32) (hc : key.length ≤ c) (ct : Int) (h0 : 0 ≤ ct) (h1 : ct < 4294967296) (g' : Nat) (a' : Option Addr) (c' : Nat) (non : List Int) (hr' : Rd w g' a' .u8 non) (hb' : Byt non) (hl' : non.length = 12) (hc' : non.length ≤ c')
    (hf : fitB key ct non = true) (rn : Nat) (hrn : rn = 10) :
    Calls Try.prog 55 #[.slice a key.length c, .int .i64 ct, .slice a' non.length c'] w fun e w' => NewRow w.heap.size w' e .u8 (fill (stF ((nsW key non).set 12 ct) (rds rn ((nsW key non).set 12 ct))) 64) ∧ Below w.heap.size w w' := by
  have HRN := hide hrn
  clear hrn
  obtain ⟨i0, hi, hz0, hz1, hz2⟩ := info_parts Try.info5
  have FT := fits_any w a a' c c' key non ct
  rw [hf] at FT
  clear hf
  have gl := hr.lt (by omega)
  have gl' := hr'.lt (by omega)
  obtain ⟨o, ea, -⟩ := hr (by omega)
  obtain ⟨o', ea', -⟩ := hr' (by omega)
  subst ea
  subst ea'
  have HL := hide hl
  have HL' := hide hl'
  have hcI : (key.length : Int) ≤ (c : Int) := by omega
  have hcI' : (non.length : Int) ≤ (c' : Int) := by omega
  have cw : ct % 4294967296 = ct := by omega
  have n1 : Below w.heap.size w (w.alloc (.cells #[.int .u32 1634760805, .int .u32 857760878, .int .u32 2036477234, .int .u32 1797285236, .int .u32 0, .int .u32 0, .int .u32 0, .int .u32 0, .int .u32 0, .int .u32 0, .int .u32 0, .int .u32 0, .int .u32 0, .int .u32 0, .int .u32 0, .int .u32 0] 58)) := (Below.refl _ _).alloc (Nat.le_refl _) _
  have B1 : Blk (w.alloc (.cells #[.int .u32 1634760805, .int .u32 857760878, .int .u32 2036477234, .int .u32 1797285236, .int .u32 0, .int .u32 0, .int .u32 0, .int .u32 0, .int .u32 0, .int .u32 0, .int .u32 0, .int .u32 0, .int .u32 0, .int .u32 0, .int .u32 0, .int .u32 0] 58)) w.heap.size .u32 st0 := blk_alloc w .u32 58 st0
  have z1 : (w.alloc (.cells #[.int .u32 1634760805, .int .u32 857760878, .int .u32 2036477234, .int .u32 1797285236, .int .u32 0, .int .u32 0, .int .u32 0, .int .u32 0, .int .u32 0, .int .u32 0, .int .u32 0, .int .u32 0, .int .u32 0, .int .u32 0, .int .u32 0, .int .u32 0] 58)).heap.size = w.heap.size + 1 := by simp
  generalize hkl : key.length = kl at *
  generalize hnl : non.length = nl at *
  have HK := hide hkl
  have HN := hide hnl
  clear hkl hnl
  subst hl
  subst hl'
  go_enter Try.func55, Try.ntmps55
  go_wp2_with fail
  refine FT.mono ?_
  rintro e w1 ⟨rfl, rfl⟩
  clear FT
  go_wp2
  generalize w1.alloc (.cells #[.int .u32 1634760805, .int .u32 857760878, .int .u32 2036477234, .int .u32 1797285236, .int .u32 0, .int .u32 0, .int .u32 0, .int .u32 0, .int .u32 0, .int .u32 0, .int .u32 0, .int .u32 0, .int .u32 0, .int .u32 0, .int .u32 0, .int .u32 0] 58) = wa at *
  go_loopw [8] (fun v wr => ∃ (i : Nat), i ≤ 8 ∧ v = .int .i64 i ∧ Blk wr w1.heap.size .u32 (wsF st0 4 key i) ∧ Below w1.heap.size w1 wr) (fun v _ => 8 - (intOf v).toNat)
  case atStart => exact ⟨0, Nat.zero_le _, rfl, B1, n1⟩
  case round =>
    obtain ⟨i, hi8, rfl, hB, hN⟩ := hrel
    clear B1 n1 z1
    by_cases hlt : i < 8
    · have LWc := l8Word_any wr g (some ⟨g, o + 4 * i, none⟩) (c - 4 * i) _ (rd_part (hr.up hN) (4 * i) (32 - 4 * i) (by rw [HK.out]; omega)) (byt_part hb _ _) (by rw [part_len _ _ _ (by rw [HK.out]; omega)]; omega)
      rw [part_len _ _ _ (by rw [HK.out]; omega)] at LWc
      have lv : lw ((key.drop (4 * i)).take (32 - 4 * i)) 0 = lw key (4 * i) := by
        unfold lw
        rw [part_get key _ _ 0 (by omega), part_get key _ _ (0 + 1) (by omega), part_get key _ _ (0 + 2) (by omega), part_get key _ _ (0 + 3) (by omega)]
        simp only [Nat.zero_add, Nat.add_zero]
      rw [lv] at LWc
      have HC := hide LWc
      have e1 := hB.cell (i := 4 + i) (by rw [wsF_len]; show _ < 16; omega)
      have f1 := hB.free (4 + i)
      have B' := hB.store (4 + i) (lw key (4 * i))
      have WS : Hid ((wsF st0 4 key i).set (4 + i) (lw key (4 * i)) = wsF st0 4 key (i + 1)) := rfl
      have d1 : (4 : Int) + (i : Int) = ((4 + i : Nat) : Int) := by omega
      have d2 : (4 : Int) * (i : Int) = ((4 * i : Nat) : Int) := by omega
      have d3 : ((4 + i : Nat) : Int) < 16 := by omega
      have d4 : ((4 * i : Nat) : Int) ≤ 32 := by omega
      have d5 : 4 * i ≤ 32 := by omega
      have d6 : ¬ (4 * i = c) := by omega
      have d7 : 4 * i < c := by omega
      clear LWc lv B'
      generalize (wsF st0 4 key i).getD (4 + i) 0 = y0 at *
      generalize lw key (4 * i) = lv at *
      generalize 4 + i = p4 at *
      generalize h4 : 4 * i = q4 at *
      go_wp2_with fail
      refine HC.out.mono ?_
      rintro e w2 ⟨rfl, m, rfl⟩
      have hB2 : Blk (wr.drewN m) w1.heap.size .u32 (wsF st0 4 key i) := hB
      have B2 := hB2.store p4 lv
      rw [WS.out] at B2
      have N2 := (below_drewN hN m).trans ((Only.setCell (wr.drewN m) w1.heap.size p4 (.int .u32 lv)).below (Nat.le_refl _))
      clear HC WS hB hB2 hN
      go_wp2
      go_roundw
      case rel => exact ⟨i + 1, by omega, by go_num, B2, N2⟩
      case measure => simp [intOf]; omega
    · obtain rfl : i = 8 := by omega
      rw [show ((8 : Nat) : Int) = 8 from rfl]
      have e12 := hB.cell (i := 12) (by rw [wsF_len]; decide)
      have f12 := hB.free 12
      have B2 := hB.store 12 ct
      have N2 := hN.trans ((Only.setCell wr w1.heap.size 12 (.int .u32 ct)).below (Nat.le_refl _))
      have yl : ((wsF st0 4 key 8).set 12 ct).length = 16 := by rw [List.length_set, wsF_len]; rfl
      have SW : wsF ((wsF st0 4 key 8).set 12 ct) 13 non 3 = (nsW key non).set 12 ct := wsF_set _ ct non 13 (by decide) 3
      generalize (wsF st0 4 key 8).getD 12 0 = y12 at *
      generalize (wsF st0 4 key 8).set 12 ct = yk at *
      have YL := hide yl
      have SWH := hide SW
      clear hB hN yl SW
      go_wp2
      generalize wr.setCell ⟨w1.heap.size, 12, none⟩ (.int .u32 ct) = wb at *
      go_loopw [9] (fun v wr => ∃ (i : Nat), i ≤ 3 ∧ v = .int .i64 i ∧ Blk wr w1.heap.size .u32 (wsF yk 13 non i) ∧ Below w1.heap.size w1 wr) (fun v _ => 3 - (intOf v).toNat)
      case atStart => exact ⟨0, Nat.zero_le _, rfl, B2, N2⟩
      case round =>
        obtain ⟨i, hi3, rfl, hB, hN⟩ := hrel
        clear B2 N2 e12 f12
        by_cases hlt : i < 3
        · have LWc := l8Word_any wr g' (some ⟨g', o' + 4 * i, none⟩) (c' - 4 * i) _ (rd_part (hr'.up hN) (4 * i) (12 - 4 * i) (by rw [HN.out]; omega)) (byt_part hb' _ _) (by rw [part_len _ _ _ (by rw [HN.out]; omega)]; omega)
          rw [part_len _ _ _ (by rw [HN.out]; omega)] at LWc
          have lv : lw ((non.drop (4 * i)).take (12 - 4 * i)) 0 = lw non (4 * i) := by
            unfold lw
            rw [part_get non _ _ 0 (by omega), part_get non _ _ (0 + 1) (by omega), part_get non _ _ (0 + 2) (by omega), part_get non _ _ (0 + 3) (by omega)]
            simp only [Nat.zero_add, Nat.add_zero]
          rw [lv] at LWc
          have HC := hide LWc
          have e1 := hB.cell (i := 13 + i) (by rw [wsF_len, YL.out]; omega)
          have f1 := hB.free (13 + i)
          have WS : Hid ((wsF yk 13 non i).set (13 + i) (lw non (4 * i)) = wsF yk 13 non (i + 1)) := rfl
          have d1 : (13 : Int) + (i : Int) = ((13 + i : Nat) : Int) := by omega
          have d2 : (4 : Int) * (i : Int) = ((4 * i : Nat) : Int) := by omega
          have d3 : ((13 + i : Nat) : Int) < 16 := by omega
          have d4 : ((4 * i : Nat) : Int) ≤ 12 := by omega
          have d5 : 4 * i ≤ 12 := by omega
          have d6 : ¬ (4 * i = c') := by omega
          have d7 : 4 * i < c' := by omega
          clear LWc lv
          generalize (wsF yk 13 non i).getD (13 + i) 0 = y0 at *
          generalize lw non (4 * i) = lv at *
          generalize 13 + i = p4 at *
          generalize h4 : 4 * i = q4 at *
          go_wp2_with fail
          refine HC.out.mono ?_
          rintro e w2 ⟨rfl, m, rfl⟩
          have hB2 : Blk (wr.drewN m) w1.heap.size .u32 (wsF yk 13 non i) := hB
          have B2 := hB2.store p4 lv
          rw [WS.out] at B2
          have N2 := (below_drewN hN m).trans ((Only.setCell (wr.drewN m) w1.heap.size p4 (.int .u32 lv)).below (Nat.le_refl _))
          clear HC WS hB hB2 hN
          go_wp2
          go_roundw
          case rel => exact ⟨i + 1, by omega, by go_num, B2, N2⟩
          case measure => simp [intOf]; omega
        · obtain rfl : i = 3 := by omega
          rw [show ((3 : Nat) : Int) = 3 from rfl]
          rw [SWH.out] at hB
          have sww : Ws ((nsW key non).set 12 ct) := (nsW_ws hb hb').set 12 ⟨h0, h1⟩
          have swl : ((nsW key non).set 12 ct).length = 16 := by rw [List.length_set]; exact nsW_len key non
          clear SWH hr hr' hb hb' HL HL' HK HN YL
          obtain ⟨sw, hsw⟩ : ∃ s, s = (nsW key non).set 12 ct := ⟨_, rfl⟩
          have OUT : Hid (∀ k, k = 16 → fill (stF ((nsW key non).set 12 ct) (rds rn ((nsW key non).set 12 ct))) 64 = oL sw (rds rn sw) k) := fun k hk => by
            rw [oL_fill, hsw, hk]
          rw [← hsw] at hB sww swl
          have SWL := hide swl
          clear hsw swl
          have RG := (Seg.blk hB).range
          have L : Hid ((sw.map (Value.int .u32)).length = 16) := by show _ = _; rw [List.length_map]; exact SWL.out
          have O := one_ints .u32 sw
          have n4 : Below wr.heap.size wr (wr.alloc (.cells #[.int .u32 0, .int .u32 0, .int .u32 0, .int .u32 0, .int .u32 0, .int .u32 0, .int .u32 0, .int .u32 0, .int .u32 0, .int .u32 0, .int .u32 0, .int .u32 0, .int .u32 0, .int .u32 0, .int .u32 0, .int .u32 0] 58)) := (Below.refl _ _).alloc (Nat.le_refl _) _
          have B4 := blk_z16 wr 58
          obtain ⟨t4, H4⟩ := B4
          have SR := blk_setRow (zs := sw) ⟨t4, H4⟩
          have OR := only_setRow (wr.alloc (.cells #[.int .u32 0, .int .u32 0, .int .u32 0, .int .u32 0, .int .u32 0, .int .u32 0, .int .u32 0, .int .u32 0, .int .u32 0, .int .u32 0, .int .u32 0, .int .u32 0, .int .u32 0, .int .u32 0, .int .u32 0, .int .u32 0] 58)) wr.heap.size (sw.map (Value.int .u32)).toArray
          have hB' := (hB.up n4).of_block (OR.block w1.heap.size (by have := hB.lt; omega))
          have N4 := (hN.trans (n4.mono hN.size)).trans (OR.below (B := w1.heap.size) hN.size)
          have qq := hB.lt
          obtain ⟨vy, hvy⟩ : ∃ v, v = sw.map (Value.int .u32) := ⟨_, rfl⟩
          rw [← hvy] at RG L O SR OR hB' N4
          clear hvy hB hN n4
          go_wp2_with (first
            | (refine wpList_load_mid rfl 58 (.tmp 7) rfl w1.heap.size 0 rfl vy (.array 16 57) RG und16 rfl (by rw [L.out]; exact info16) ?_)
            | (refine wpList_store_row rfl 58 (.tmp 10) (.tmp 51) rfl wr.heap.size vy.toArray rfl rfl t4 _ H4 (by rw [List.size_toArray, L.out]; exact info16) (by rw [List.size_toArray, List.size_toArray, L.out]; rfl) O ?_))
          have zz := OR.size
          generalize wr.heap.size = q2 at *
          generalize (wr.alloc (.cells #[.int .u32 0, .int .u32 0, .int .u32 0, .int .u32 0, .int .u32 0, .int .u32 0, .int .u32 0, .int .u32 0, .int .u32 0, .int .u32 0, .int .u32 0, .int .u32 0, .int .u32 0, .int .u32 0, .int .u32 0, .int .u32 0] 58)).setRow q2 vy.toArray = wd at *
          clear H4 OR RG L O zz
          go_loopw [11] (fun v wr => ∃ (r : Nat), r ≤ 10 ∧ v = .int .i64 r ∧ Blk wr w1.heap.size .u32 sw ∧ Blk wr q2 .u32 (rds r sw) ∧ Below w1.heap.size w1 wr) (fun v _ => 10 - (intOf v).toNat)
          case atStart => exact ⟨0, Nat.zero_le _, rfl, hB', SR, N4⟩
          case round =>
            obtain ⟨r, hr10, rfl, hS, hR, hN⟩ := hrel
            clear hB' SR N4
            by_cases rlt : r < 10
            · have yl : (rds r sw).length = 16 := (rds_len sw r).trans SWL.out
              have yw := rds_ws sww r
              have r10 : (r : Int) < 10 := by omega
              have DB : Hid (∀ z, z = dbl (rds r sw) → z = rds (r + 1) sw) := fun z h => h
              generalize rds r sw = y0 at *
              have YL := hide yl
              clear yl
              go_wp2
              go_loopw [12] (fun v wr => ∃ (i : Nat), i ≤ 4 ∧ v = .int .i64 i ∧ Blk wr w1.heap.size .u32 sw ∧ Blk wr q2 .u32 (clA y0 i) ∧ Below w1.heap.size w1 wr) (fun v _ => 4 - (intOf v).toNat)
              case atStart => exact ⟨0, Nat.zero_le _, rfl, hS, hR, hN⟩
              case round =>
                obtain ⟨i, hi4, rfl, gS, gR, gN⟩ := hrel
                clear hS hR hN
                by_cases ilt : i < 4
                · have QC := fun W => hide (l8Quarter_any W (clA y0 i) (clA_ws yw i) ((clA_len y0 i).trans YL.out) i (4 + i) (8 + i) (12 + i) (by omega) (by omega) (by omega) (by omega) ⟨by omega, by omega, by omega, by omega, by omega, by omega⟩)
                  have CA : Hid (qrL (clA y0 i) i (4 + i) (8 + i) (12 + i) = clA y0 (i + 1)) := rfl
                  simp only [CA.out] at QC
                  have RG := (Seg.blk gR).range
                  have L : Hid (((clA y0 i).map (Value.int .u32)).length = 16) := by show _ = _; rw [List.length_map, clA_len]; exact YL.out
                  have LO : Hid (((clA y0 i).map (Value.int .u32)).length = 16) := L
                  have L2 : Hid (((clA y0 (i + 1)).map (Value.int .u32)).length = 16) := by show _ = _; rw [List.length_map, clA_len]; exact YL.out
                  have O2 := one_ints .u32 (clA y0 (i + 1))
                  have V1 : Hid (ag .u32 (clA y0 i) = Value.agg ((clA y0 i).map (Value.int .u32)).toArray) := rfl
                  have V2 : Hid (ag .u32 (clA y0 (i + 1)) = Value.agg ((clA y0 (i + 1)).map (Value.int .u32)).toArray) := rfl
                  simp only [V1.out, V2.out] at QC
                  obtain ⟨v1, hv1⟩ : ∃ v, v = (clA y0 i).map (Value.int .u32) := ⟨_, rfl⟩
                  obtain ⟨v2, hv2⟩ : ∃ v, v = (clA y0 (i + 1)).map (Value.int .u32) := ⟨_, rfl⟩
                  simp only [← hv1, ← hv2] at QC
                  rw [← hv1] at RG L
                  rw [← hv2] at L2 O2
                  have HV2 := hide hv2
                  clear hv1 hv2 V1 V2 CA
                  have d1 : (4 : Int) + (i : Int) = ((4 + i : Nat) : Int) := by omega
                  have d2 : (8 : Int) + (i : Int) = ((8 + i : Nat) : Int) := by omega
                  have d3 : (12 : Int) + (i : Int) = ((12 + i : Nat) : Int) := by omega
                  have i4 : (i : Int) < 4 := by omega
                  generalize 4 + i = x2 at *
                  generalize 8 + i = x3 at *
                  generalize 12 + i = x4 at *
                  go_wp2_with (refine wpList_load_mid rfl 58 (.tmp 10) rfl q2 0 rfl v1 (.array 16 57) RG und16 rfl (by rw [L.out]; exact info16) ?_)
                  refine (QC wr).out.mono ?_
                  rintro e w3 ⟨rfl, n3⟩
                  obtain ⟨t5, H5⟩ := gR.up n3
                  have SR := blk_setRow (zs := clA y0 (i + 1)) ⟨t5, H5⟩
                  rw [← HV2.out] at SR
                  have OR := only_setRow w3 q2 v2.toArray
                  have S3 := (gS.up n3).of_block (OR.block w1.heap.size (by omega))
                  have N3 := (gN.trans (n3.mono gN.size)).trans (OR.below (B := w1.heap.size) (by omega))
                  clear QC RG gS gR gN n3 OR
                  go_wp2_with (refine wpList_store_row rfl 58 (.tmp 10) (.tmp 68) rfl q2 v2.toArray rfl rfl t5 _ H5 (by rw [List.size_toArray, L2.out]; exact info16) (by have a1 := L2.out; have a2 := LO.out; simp only [List.size_toArray]; omega) O2 ?_)
                  go_roundw
                  case rel => exact ⟨i + 1, by omega, by go_num, S3, SR, N3⟩
                  case measure => simp [intOf]; omega
                · obtain rfl : i = 4 := by omega
                  try rw [show ((4 : Nat) : Int) = 4 from rfl]
                  have yw1 := clA_ws yw 4
                  have YL1 := hide ((clA_len y0 4).trans YL.out)
                  have EY : Hid (∃ y, y = clA y0 4) := ⟨_, rfl⟩
                  obtain ⟨y1, hy1⟩ := EY.out
                  rw [← hy1] at gR yw1 YL1
                  have EY := hide hy1
                  clear hy1
                  go_wp2
                  go_loopw [13] (fun v wr => ∃ (i : Nat), i ≤ 4 ∧ v = .int .i64 i ∧ Blk wr w1.heap.size .u32 sw ∧ Blk wr q2 .u32 (clB y1 i) ∧ Below w1.heap.size w1 wr) (fun v _ => 4 - (intOf v).toNat)
                  case atStart => exact ⟨0, Nat.zero_le _, rfl, gS, gR, gN⟩
                  case round =>
                    obtain ⟨i, hi4, rfl, gS, gR, gN⟩ := hrel
                    by_cases ilt : i < 4
                    · have QC := fun W => hide (l8Quarter_any W (clB y1 i) (clB_ws yw1 i) ((clB_len y1 i).trans YL1.out) i (4 + (i + 1) % 4) (8 + (i + 2) % 4) (12 + (i + 3) % 4) (by omega) (by omega) (by omega) (by omega) ⟨by omega, by omega, by omega, by omega, by omega, by omega⟩)
                      have CA : Hid (qrL (clB y1 i) i (4 + (i + 1) % 4) (8 + (i + 2) % 4) (12 + (i + 3) % 4) = clB y1 (i + 1)) := rfl
                      simp only [CA.out] at QC
                      have RG := (Seg.blk gR).range
                      have L : Hid (((clB y1 i).map (Value.int .u32)).length = 16) := by show _ = _; rw [List.length_map, clB_len]; exact YL1.out
                      have LO : Hid (((clB y1 i).map (Value.int .u32)).length = 16) := L
                      have L2 : Hid (((clB y1 (i + 1)).map (Value.int .u32)).length = 16) := by show _ = _; rw [List.length_map, clB_len]; exact YL1.out
                      have O2 := one_ints .u32 (clB y1 (i + 1))
                      have V1 : Hid (ag .u32 (clB y1 i) = Value.agg ((clB y1 i).map (Value.int .u32)).toArray) := rfl
                      have V2 : Hid (ag .u32 (clB y1 (i + 1)) = Value.agg ((clB y1 (i + 1)).map (Value.int .u32)).toArray) := rfl
                      simp only [V1.out, V2.out] at QC
                      obtain ⟨v1, hv1⟩ : ∃ v, v = (clB y1 i).map (Value.int .u32) := ⟨_, rfl⟩
                      obtain ⟨v2, hv2⟩ : ∃ v, v = (clB y1 (i + 1)).map (Value.int .u32) := ⟨_, rfl⟩
                      simp only [← hv1, ← hv2] at QC
                      rw [← hv1] at RG L
                      rw [← hv2] at L2 O2
                      have HV2 := hide hv2
                      clear hv1 hv2 V1 V2 CA
                      obtain ⟨a1, ha1⟩ : ∃ a, a = (i + 1) % 4 := ⟨_, rfl⟩
                      obtain ⟨a2, ha2⟩ : ∃ a, a = (i + 2) % 4 := ⟨_, rfl⟩
                      obtain ⟨a3, ha3⟩ : ∃ a, a = (i + 3) % 4 := ⟨_, rfl⟩
                      simp only [← ha1, ← ha2, ← ha3] at QC
                      have m1 : ((i : Int) + 1) % 4 = (a1 : Int) := by omega
                      have m2 : ((i : Int) + 2) % 4 = (a2 : Int) := by omega
                      have m3 : ((i : Int) + 3) % 4 = (a3 : Int) := by omega
                      have d1 : (4 : Int) + (a1 : Int) = ((4 + a1 : Nat) : Int) := by omega
                      have d2 : (8 : Int) + (a2 : Int) = ((8 + a2 : Nat) : Int) := by omega
                      have d3 : (12 : Int) + (a3 : Int) = ((12 + a3 : Nat) : Int) := by omega
                      have i4 : (i : Int) < 4 := by omega
                      have s1 : 4 + a1 ≤ 15 := by omega
                      have s2 : 8 + a2 ≤ 15 := by omega
                      have s3 : 12 + a3 ≤ 15 := by omega
                      clear ha1 ha2 ha3
                      generalize 4 + a1 = x2 at *
                      generalize 8 + a2 = x3 at *
                      generalize 12 + a3 = x4 at *
                      go_wp2_with (refine wpList_load_mid rfl 58 (.tmp 10) rfl q2 0 rfl v1 (.array 16 57) RG und16 rfl (by rw [L.out]; exact info16) ?_)
                      refine (QC wr).out.mono ?_
                      rintro e w3 ⟨rfl, n3⟩
                      obtain ⟨t5, H5⟩ := gR.up n3
                      have SR := blk_setRow (zs := clB y1 (i + 1)) ⟨t5, H5⟩
                      rw [← HV2.out] at SR
                      have OR := only_setRow w3 q2 v2.toArray
                      have S3 := (gS.up n3).of_block (OR.block w1.heap.size (by omega))
                      have N3 := (gN.trans (n3.mono gN.size)).trans (OR.below (B := w1.heap.size) (by omega))
                      clear QC RG gS gR gN n3 OR
                      go_wp2_with (refine wpList_store_row rfl 58 (.tmp 10) (.tmp 87) rfl q2 v2.toArray rfl rfl t5 _ H5 (by rw [List.size_toArray, L2.out]; exact info16) (by have a1 := L2.out; have a2 := LO.out; simp only [List.size_toArray]; omega) O2 ?_)
                      go_roundw
                      case rel => exact ⟨i + 1, by omega, by go_num, S3, SR, N3⟩
                      case measure => simp [intOf]; omega
                    · obtain rfl : i = 4 := by omega
                      try rw [show ((4 : Nat) : Int) = 4 from rfl]
                      have D8 := DB.out _ (show clB y1 4 = dbl y0 by rw [EY.out]; exact dbl_cl y0)
                      rw [D8] at gR
                      clear D8
                      go_wp2
                      go_roundw
                      case rel => exact ⟨r + 1, by omega, by go_num, gS, gR, gN⟩
                      case measure => simp [intOf]; omega
            · obtain rfl : r = rn := by have := HRN.out; omega
              have RL := hide ((rds_len sw r).trans SWL.out)
              generalize rds r sw = rs at *
              have n5 : Below wr.heap.size wr (wr.alloc (.cells #[] 5)) := (Below.refl _ _).alloc (Nat.le_refl _) _
              have R5 := RowB.lit0 wr
              have ql := hR.lt
              have z5 : (wr.alloc (.cells #[] 5)).heap.size = wr.heap.size + 1 := by simp
              go_wp2
              have S5 := hS.up n5
              have T5 := hR.up n5
              have N5 := hN.trans (n5.mono hN.size)
              have R5 := R5.base (base' := q2 + 1) (by omega)
              generalize wr.alloc (.cells #[] 5) = wf at *
              clear hS hR hN n5
              go_loopw [14, 15] (fun v u wr => ∃ (n : Nat), n ≤ 16 ∧ u = .int .i64 n ∧ RowB wr (q2 + 1) v (oL sw rs n) ∧ Blk wr w1.heap.size .u32 sw ∧ Blk wr q2 .u32 rs ∧ q2 + 1 ≤ wr.heap.size ∧ Below w1.heap.size w1 wr) (fun _ u _ => 16 - (intOf u).toNat)
              case atStart => exact ⟨0, Nat.zero_le _, rfl, R5, S5, T5, by omega, N5⟩
              case round =>
                obtain ⟨n, hn, rfl, hV, hS, hR, hz, hN⟩ := hrel
                clear R5 S5 T5 N5 z5
                by_cases nlt : n < 16
                · have c1 := hS.cell (i := n) (by rw [SWL.out]; exact nlt)
                  have c2 := hR.cell (i := n) (by rw [RL.out]; exact nlt)
                  have n16 : (n : Int) < 16 := by omega
                  have OE : Hid (oL sw rs (n + 1) = oL sw rs n ++ oW ((rs.getD n 0 + sw.getD n 0) % 4294967296)) := rfl
                  have OLn := hide (oL_len sw rs n)
                  generalize sw.getD n 0 = s1 at *
                  generalize rs.getD n 0 = s2 at *
                  go_wp2_with fail
                  go_quiet (fail)
                  obtain ⟨v, hv⟩ : ∃ v, v = (s2 + s1) % 4294967296 := ⟨_, rfl⟩
                  simp only [← hv] at OE ⊢
                  have v0 : 0 ≤ v := by omega
                  have v1 : v < 4294967296 := by omega
                  have hV' : RowB (wr.drewN nq) (q2 + 1) _ (oL sw rs n) := hV
                  have hS' : Blk (wr.drewN nq) w1.heap.size .u32 sw := hS
                  have hR' : Blk (wr.drewN nq) q2 .u32 rs := hR
                  have hN' := below_drewN hN nq
                  have hz' : q2 + 1 ≤ (wr.drewN nq).heap.size := hz
                  clear hv c1 c2 hV hS hR hN hz
                  generalize wr.drewN nq = ws at *
                  have n6 : Below ws.heap.size ws (ws.alloc (.cells #[.int .u8 (v % 256), .int .u8 (v / 256 % 256), .int .u8 (v / 65536 % 256), .int .u8 (v / 16777216)] 5)) := (Below.refl _ _).alloc (Nat.le_refl _) _
                  have B6 : Blk (ws.alloc (.cells #[.int .u8 (v % 256), .int .u8 (v / 256 % 256), .int .u8 (v / 65536 % 256), .int .u8 (v / 16777216)] 5)) ws.heap.size .u8 (oW v) := blk_alloc ws .u8 5 (oW v)
                  have hap := append_any (P := Try.prog) (ws.alloc (.cells #[.int .u8 (v % 256), .int .u8 (v / 256 % 256), .int .u8 (v / 65536 % 256), .int .u8 (v / 16777216)] 5)) 22 i0 Try.underlying22 hi hz0 hz1 hz2 (q2 + 1) (q2 + 1) _ _ (hV'.up n6) _ _ 4 (oW v) B6.own0.rd (by simp) (by rw [OLn.out]; show _ + 4 ≤ _; omega) (Nat.le_refl _) (Nat.le_trans hz' n6.size)
                  rw [show (oW v).length = 4 from rfl] at hap
                  obtain ⟨v', w7, hap, o7, n7⟩ := hap
                  have S7 := (hS'.up n6).of_block (n7.block w1.heap.size (by omega))
                  have R7 := (hR'.up n6).of_block (n7.block q2 (by omega))
                  have N7 := (hN'.trans (n6.mono hN'.size)).trans (n7.mono (by omega))
                  have z7 := Nat.le_trans (Nat.le_trans hz' n6.size) n7.size
                  rw [← OE.out] at o7
                  clear B6 hV' hS' hR' hN' n6 n7 OE hz'
                  go_wp2_with (at_builtin; refine Lib.wpList_append_run _ rfl _ _ 22 22 rfl _ _ rfl rfl _ _ hap ?_)
                  clear hap
                  go_roundw
                  case rel => exact ⟨n + 1, by omega, by go_num, o7, S7, R7, z7, N7⟩
                  case measure => simp [intOf]; omega
                · have H16 := hide (show n = 16 by omega)
                  have nn : ¬ ((n : Int) < 16) := by omega
                  obtain ⟨a3, c3, g3, rfl, o3, p3, q3, r3⟩ := hV.own
                  go_wp2
                  go_ret
                  rw [OUT.out n H16.out]
                  exact ⟨⟨a3, c3, g3, rfl, o3, p3, q3, by omega⟩, hN⟩
theorem specBlock_any (w : World) (g : Nat) (a : Option Addr) (c : Nat) (key : List Int) (hr : Rd w g a .u8 key) (hb : Byt key) (hc : key.length ≤ c) (ct : Int) (g' : Nat) (a' : Option Addr) (c' : Nat) (non : List Int) (hr' : Rd w g' a' .u8 non) (hb' : Byt non) (hc' : non.length ≤ c') :
    Calls Try.prog 55 #[.slice a key.length c, .int .i64 ct, .slice a' non.length c'] w fun e w' => NewRow w.heap.size w' e .u8 (sbA key ct non) ∧ Below w.heap.size w w' := by
  by_cases hf : fitB key ct non = true
  · have h := hf
    unfold fitB at h
    simp only [Bool.and_eq_true, decide_eq_true_eq] at h
    have RS : sbA key ct non = fill (stF ((nsW key non).set 12 ct) (rds 10 ((nsW key non).set 12 ct))) 64 := by unfold sbA; rw [if_pos hf]; unfold strB stB; rfl
    rw [RS]
    exact specBlock_core w g a c key hr hb h.1.1 hc ct h.2.1 (by omega) g' a' c' non hr' hb' h.1.2 hc' hf 10 rfl
  · have RS : Hid (sbA key ct non = []) := by show _ = _; unfold sbA; rw [if_neg hf]
    rw [RS.out]
    have FT := fits_any w a a' c c' key non ct
    rw [show fitB key ct non = false by simpa using hf] at FT
    clear hf RS
    go_enter Try.func55, Try.ntmps55
    go_wp2_with fail
    refine FT.mono ?_
    rintro e w1 ⟨rfl, rfl⟩
    go_wp2
    go_ret
    exact ⟨newRow_e _ _, (Below.refl _ _).alloc (Nat.le_refl _) _⟩
end Go.Proofs.Ytcljoaknaegpmaa

/-
  The model's StreamXor (written by gens/spe.py).
-/
namespace Go.Proofs.Ytcljoaknaegpmaa
open Go Go.RowKit

theorem step_append_ex {P : Program} {ops : Array Oper} {o : Oper} {a : Act} {w : World} {K : Act → World → Prop} {Q : Exit → Act → World → Prop} {E : Prop} (hg : o.guard = none) (s x : Operand) (t tn : TypeId)
    (ho : o.op = .call { callee := .builtin .append, args := #[s, x], argTypes := #[t, tn] }) (vs vx : Value) (hs : a.eval s = vs) (hx : a.eval x = vx) (R : Value → World → Prop)
    (H : ∃ v' w', (Builtin.append_ #[t, tn] o.type #[vs, vx]).run P w = .ok v' w' ∧ R v' w') (hK : ∀ v' w', R v' w' → K (a.put o.dst v') w') :
    if Region.wanted o (yielded ops a.tmps) = true then Oper.wp P o a w K Q else E := by
  have hw : Region.wanted o (yielded ops a.tmps) = true := by simp [Region.wanted, hg]
  rw [if_pos hw]
  obtain ⟨v', w', hr, hR⟩ := H
  exact Lib.wp_append_run w s x t tn ho vs vx hs hx v' w' hr (hK v' w' hR)
/-- An append, that it turns its own row alone, and where the new one lies. -/
theorem append_anyH {P : Program} (w : World) (ty : TypeId) (i : TypeInfo) (ht : P.underlying 22 = some (.slice 5)) (hi : P.info? 5 = some i) (hz : i.zero = some (.int .u8 0)) (hsize : i.size = 1) (hby : i.bytes = 1)
    (base : Nat) (v : Value) (xs : List Int) (hown : RowB w base v xs) (g o c : Nat) (us : List Int) (hr : Rd w g (some ⟨g, o, none⟩) .u8 us) (hl : xs.length + us.length ≤ 1099511627776) (hbase : base ≤ w.heap.size) :
    ∃ v' w', (Builtin.append_ #[22, 22] ty #[v, .slice (some ⟨g, o, none⟩) us.length c]).run P w = .ok v' w' ∧ RowB w' base v' (xs ++ us) ∧ w.grownBy w' v.ownBlock ∧ (v'.ownBlock = v.ownBlock ∨ v'.ownBlock = some w.heap.size) := by
  have hcell : ∀ j u, (us.map (Value.int .u8))[j]? = some u → w.cell? ((⟨g, o, none⟩ : Addr).add j) = some u := by
    intro j u hj
    have hjl : j < us.length := by
      have := (List.getElem?_eq_some_iff.1 hj).1
      simpa using this
    obtain ⟨off, ha, hcc⟩ := hr (by omega)
    simp only [Option.some.injEq] at ha
    rw [ha, Addr.add_mid, hcc j hjl]
    simpa [hjl] using hj
  have hone : ∀ u ∈ us.map (Value.int .u8), u.oneCell' = true := by
    intro u hu
    obtain ⟨x, _, rfl⟩ := List.mem_map.1 hu
    rfl
  obtain ⟨v', w', h1, h2, h3, _, h5⟩ := run_append_own_at (P := P) w base 22 ty 5 i (.int .u8 0) 1 1 ht hi hz hsize hby rfl (by decide) v xs.length (xs.map (Value.int .u8)) hown ⟨g, o, none⟩ us.length c (us.map (Value.int .u8)) (by simp) hcell hone (by unfold maxLen; omega) (by omega) hbase
  refine ⟨v', w', h1, ?_, h3, h5⟩
  show w'.ownsRow base 5 1 v' (xs ++ us).length ((xs ++ us).map (Value.int .u8))
  rw [List.length_append, List.map_append]
  exact h2
/-- A byte with the stream laid over it. -/
def sxF (key : List Int) (c : Int) (non data : List Int) (i : Nat) : Int := xr (data.getD i 0) ((strB key (c + ((i / 64 : Nat) : Int)) non).getD (i % 64) 0)
theorem sx_fill (key : List Int) (c : Int) (non data : List Int) : xoG (nsW key non) c data ((data.length + 63) / 64) = fill (sxF key c non data) data.length := by
  refine eq_of_getD (by rw [xoG_len, fill_len]) (fun i hi => ?_)
  rw [xoG_len] at hi
  rw [xoG_get _ _ _ _ hi, if_pos (by omega), fill_get _ _ _ hi]
  rfl
theorem sbA_fit {key : List Int} {c c' : Int} {non : List Int} (h : fitB key c non = true) (h0 : 0 ≤ c') (h1 : c' ≤ 4294967295) : sbA key c' non = strB key c' non := by
  unfold sbA
  rw [if_pos]
  unfold fitB at h ⊢
  simp only [Bool.and_eq_true, decide_eq_true_eq] at h ⊢
  exact ⟨h.1, h0, h1⟩
set_option maxRecDepth 100000 in
set_option maxHeartbeats 8000000 in
theorem specXor_core (w : World) (g : Nat) (a : Option Addr) (c : Nat) (key : List Int) (hr : Rd w g a .u8 key) (hb : Byt key) (hc : key.length ≤ c) (ct : Int) (h0 : 0 ≤ ct) (h1 : ct ≤ 4294967295) (g' : Nat) (a' : Option Addr) (c' : Nat) (non : List Int) (hr' : Rd w g' a' .u8 non) (hb' : Byt non) (hc' : non.length ≤ c')
    (g2 : Nat) (a2 : Option Addr) (c2 : Nat) (data : List Int) (hr2 : Rd w g2 a2 .u8 data) (hn : data.length ≤ 4194304) (hf : fitB key ct non = true) (h3 : (data.length : Int) ≤ (4294967296 - ct) * 64) :
    Calls Try.prog 36 #[.slice a key.length c, .int .i64 ct, .slice a' non.length c', .slice a2 data.length c2] w fun e w' => NewRow w.heap.size w' e .u8 (fill (sxF key ct non data) data.length) ∧ Below w.heap.size w w' := by
  obtain ⟨i0, hi, hz0, hz1, hz2⟩ := info_parts Try.info5
  have FT := fits_any w a a' c c' key non ct
  rw [hf] at FT
  have SB := fun W (k : Nat) (n : Below w.heap.size w W) => hide (specBlock_any W g a c key (hr.up n) hb hc (ct + ((k / 64 : Nat) : Int)) g' a' c' non (hr'.up n) hb' hc')
  have SA : ∀ k, k < data.length → Hid (sbA key (ct + ((k / 64 : Nat) : Int)) non = strB key (ct + ((k / 64 : Nat) : Int)) non) := fun k hk => sbA_fit hf (by omega) (by omega)
  have BLl : ∀ c, (strB key c non).length = 64 := fun c => stB_len _
  have FS : ∀ i, fill (sxF key ct non data) (i + 1) = fill (sxF key ct non data) i ++ [bits BinOp.xor IntKind.u8 (data.getD i 0) ((strB key (ct + ((i / 64 : Nat) : Int)) non).getD (i % 64) 0)] := fun i => fill_succ _ _
  have FLn : ∀ i, (fill (sxF key ct non data) i).length = i := fun i => fill_len _ _
  have q1 : decide ((4294967295 : Int) < ct + ((data.length : Int) + 63) / 64 - 1) = false := by simp; omega
  have dn : (data.length : Int) ≤ 4194304 := by omega
  have hq1 := hide q1
  clear hf hr hr' hb hb' h3
  generalize sxF key ct non data = f at *
  generalize hlen : data.length = n at *
  have HN := hide hlen
  have cb0 : (0 : Int) ≤ ((n : Int) + 63) / 64 := by omega
  have cb1 : ((n : Int) + 63) / 64 ≤ 65537 := by omega
  go_enter Try.func36, Try.ntmps36
  go_wp2_with fail
  refine FT.mono ?_
  rintro e w1 ⟨rfl, rfl⟩
  clear FT
  have n1 : Below w1.heap.size w1 (w1.alloc (.cells #[] 5)) := (Below.refl _ _).alloc (Nat.le_refl _) _
  have R1 := RowB.lit0 w1
  have z1 : (w1.alloc (.cells #[] 5)).heap.size = w1.heap.size + 1 := by simp
  have n2 : Below (w1.alloc (.cells #[] 5)).heap.size (w1.alloc (.cells #[] 5)) ((w1.alloc (.cells #[] 5)).alloc (.cells #[] 5)) := (Below.refl _ _).alloc (Nat.le_refl _) _
  go_wp2
  have R2 := R1.up n2
  have N2 := nxt n1 n2
  generalize (w1.alloc (.cells #[] 5)).alloc (.cells #[] 5) = wa at *
  clear n1 n2 R1 z1
  go_loopw [9, 10, 11] (fun v b u wr => ∃ (i : Nat), i ≤ n ∧ u = .int .i64 i ∧ RowB wr w1.heap.size v (fill f i) ∧ (i % 64 ≠ 0 → ∃ (bo bc bg : Nat), b = .slice (some ⟨bg, bo, none⟩) 64 bc ∧ Rd wr bg (some ⟨bg, bo, none⟩) .u8 (strB key (ct + ((i / 64 : Nat) : Int)) non) ∧ v.ownBlock ≠ some bg ∧ bg < wr.heap.size) ∧ Below w1.heap.size w1 wr) (fun _ _ u _ => n - (intOf u).toNat)
  case atStart => exact ⟨0, Nat.zero_le _, rfl, R2, fun h => absurd rfl h, N2⟩
  case round =>
    obtain ⟨i, hin, rfl, hV, hBk, hN⟩ := hrel
    clear R2 N2
    by_cases hlt : i < n
    · have iI : (i : Int) < (n : Int) := by omega
      by_cases h64 : i % 64 = 0
      · have e64 : (i : Int) % 64 = 0 := by omega
        have SBi := SB wr i hN
        rw [(SA i hlt).out] at SBi
        have BL := hide (BLl (ct + ((i / 64 : Nat) : Int)))
        obtain ⟨Bk, hBk'⟩ : ∃ b, b = strB key (ct + ((i / 64 : Nat) : Int)) non := ⟨_, rfl⟩
        rw [← hBk'] at SBi BL
        obtain ⟨kq, hkq⟩ : ∃ k, k = i / 64 := ⟨_, rfl⟩
        rw [← hkq] at SBi
        have d64 : (i : Int) / 64 = (kq : Int) := by omega
        have b64 : (kq : Int) ≤ 65537 := by omega
        have b65 : 0 ≤ ct + (kq : Int) := by omega
        have b66 : ct + (kq : Int) ≤ 4295032833 := by omega
        clear hkq
        have HBk := hide hBk'.symm
        clear hBk' hBk SB SA
        go_wp2_with fail
        refine SBi.out.mono ?_
        rintro e w3 ⟨⟨ba, bc, bg, rfl, bO, bp, bq, br⟩, n3⟩
        obtain ⟨bo, eb, -⟩ := bO.rd (by rw [BL.out]; decide)
        subst eb
        have bR := bO.rd
        rw [BL.out]
        have sV := hV.up n3
        have sN := nxt hN n3
        have bl := bR.lt (by rw [BL.out]; decide)
        have bN : Value.ownBlock u9 ≠ some bg := fun e => by have := (World.ownsRow.lt hV bg e).2; omega
        clear SBi bO bp bq hV hN n3
        go_wp2_with fail
        clear e64 d64
        obtain ⟨im, him⟩ : ∃ m, m = i % 64 := ⟨_, rfl⟩
        have m64 : (i : Int) % 64 = (im : Int) := by omega
        have l64 : (im : Int) < 64 := by omega
        have k64 : (0 : Int) ≤ (im : Int) := by omega
        have mt : Int.tmod (i : Int) 64 = (im : Int) := by rw [Int.tmod_eq_emod_of_nonneg (by omega)]; exact m64
        have i00 : (0 : Int) ≤ (i : Int) := by omega
        have im64 : im < 64 := by omega
        have FE : Hid (fill f (i + 1) = fill f i ++ [bits BinOp.xor IntKind.u8 (data.getD i 0) (Bk.getD im 0)]) := by show _ = _; rw [FS i, HBk.out, him]
        obtain ⟨o2, ea2, hc2⟩ := hr2 (by rw [HN.out]; omega)
        subst ea2
        have gl2 := hr2.lt (by rw [HN.out]; omega)
        have CD : ∀ W, Below w1.heap.size w1 W → W.cell? ⟨g2, o2 + i, none⟩ = some (.int .u8 (data.getD i 0)) := fun W h => (World.cell?_of_block (a := ⟨g2, o2 + i, none⟩) (h.block g2 gl2)).trans (hc2 i (by rw [HN.out]; exact hlt))
        have CB : ∀ W, Rd W bg (some ⟨bg, bo, none⟩) .u8 Bk → W.cell? ⟨bg, bo + im, none⟩ = some (.int .u8 (Bk.getD im 0)) := fun W h => by
          obtain ⟨o3, e3, hc3⟩ := h (by rw [BL.out]; decide)
          simp only [Option.some.injEq, Addr.mk.injEq, true_and, and_true] at e3
          subst e3
          exact hc3 im (by rw [BL.out]; exact im64)
        clear him hc2
        generalize data.getD i 0 = dv at *
        generalize Bk.getD im 0 = bv at *
        have cd0 := CD w3 sN
        have cb0 := CB w3 bR
        have A0 : Hid (∃ v' w7, (Builtin.append_ #[22, 22] 22 #[u9, .slice (some ⟨w3.heap.size, 0, none⟩) 1 1]).run Try.prog (w3.drew.alloc (.cells #[.int .u8 (bits BinOp.xor IntKind.u8 dv bv)] 5)) = .ok v' w7 ∧ (RowB w7 w1.heap.size v' (fill f (i + 1)) ∧ Below w1.heap.size w1 w7 ∧ Rd w7 bg (some ⟨bg, bo, none⟩) .u8 Bk ∧ v'.ownBlock ≠ some bg ∧ bg < w7.heap.size ∧ (w7.cell? ⟨g2, o2 + i, none⟩ = some (.int .u8 dv) ∧ w7.cell? ⟨bg, bo + im, none⟩ = some (.int .u8 bv)))) := by
          have n6 : Below w3.heap.size w3 (w3.drew.alloc (.cells #[.int .u8 (bits BinOp.xor IntKind.u8 dv bv)] 5)) := ((Below.refl _ _).drew).alloc (Nat.le_refl _) _
          have B6 : Blk (w3.drew.alloc (.cells #[.int .u8 (bits BinOp.xor IntKind.u8 dv bv)] 5)) w3.heap.size .u8 [bits BinOp.xor IntKind.u8 dv bv] := blk_lit1 w3.drew .u8 5 _
          have z6 : (w3.drew.alloc (.cells #[.int .u8 (bits BinOp.xor IntKind.u8 dv bv)] 5)).heap.size = w3.heap.size + 1 := by simp
          generalize w3.drew.alloc (.cells #[.int .u8 (bits BinOp.xor IntKind.u8 dv bv)] 5) = wz at *
          have sz := sN.size
          obtain ⟨v', w7, hap, o7, G7, W7⟩ := append_anyH (P := Try.prog) wz 22 i0 Try.underlying22 hi hz0 hz1 hz2 w1.heap.size _ _ (sV.up n6) w3.heap.size 0 1 [bits BinOp.xor IntKind.u8 dv bv] B6.own0.rd (by rw [FLn]; simp; omega) (by omega)
          have lo := fun k h => World.ownsRow.lt sV k h
          have N7 : Below w1.heap.size w1 w7 := (sN.trans (n6.mono sz)).trans ⟨G7.os, G7.tape, G7.output, G7.size, fun k hk => G7.block k (by omega) (fun e => by have := (lo k e.symm).1; omega)⟩
          have bR7 := (bR.up n6).of_block (G7.block bg (by omega) (fun e => bN e.symm))
          have s7 := G7.size
          refine ⟨v', w7, hap, by rw [FE.out]; exact o7, N7, bR7, ?_, by omega, CD _ N7, CB _ bR7⟩
          rcases W7 with h | h
          · rw [h]; exact bN
          · rw [h]; intro e; simp only [Option.some.injEq] at e; omega
        clear CD CB FE FS
        go_region_held3 (fun W => W.cell? ⟨g2, o2 + i, none⟩ = some (.int .u8 dv) ∧ W.cell? ⟨bg, bo + im, none⟩ = some (.int .u8 bv))
          (first | go_keep | exact S7)
          (first | (refine step_append_ex rfl (.tmp 46) (.tmp 57) 22 22 rfl _ (.slice (some ⟨w3.heap.size, 0, none⟩) 1 1) rfl rfl _ A0.out ?_; rintro v' w7 ⟨o7, N7, bR7, bN7, bl7, S7⟩) | fail)
        clear A0
        go_wp2
        go_roundw
        case rel => exact ⟨i + 1, by omega, by go_num, o7, fun h => ⟨bo, bc, bg, rfl, by rw [show (i + 1) / 64 = i / 64 by omega, HBk.out]; exact bR7, bN7, bl7⟩, N7⟩
        case measure => simp [intOf]; omega
      · obtain ⟨bo, bc, bg, rfl, bR, bN, bl⟩ := hBk h64
        have e64 : ¬ ((i : Int) % 64 = 0) := by omega
        have BL := hide (BLl (ct + ((i / 64 : Nat) : Int)))
        obtain ⟨Bk, hBk'⟩ : ∃ b, b = strB key (ct + ((i / 64 : Nat) : Int)) non := ⟨_, rfl⟩
        rw [← hBk'] at bR BL
        have HBk := hide hBk'.symm
        clear hBk' hBk SB SA
        have sV := hV
        have sN := hN
        clear hV hN
        go_wp2_with fail
        clear e64
        obtain ⟨im, him⟩ : ∃ m, m = i % 64 := ⟨_, rfl⟩
        have m64 : (i : Int) % 64 = (im : Int) := by omega
        have l64 : (im : Int) < 64 := by omega
        have k64 : (0 : Int) ≤ (im : Int) := by omega
        have mt : Int.tmod (i : Int) 64 = (im : Int) := by rw [Int.tmod_eq_emod_of_nonneg (by omega)]; exact m64
        have i00 : (0 : Int) ≤ (i : Int) := by omega
        have im64 : im < 64 := by omega
        have FE : Hid (fill f (i + 1) = fill f i ++ [bits BinOp.xor IntKind.u8 (data.getD i 0) (Bk.getD im 0)]) := by show _ = _; rw [FS i, HBk.out, him]
        obtain ⟨o2, ea2, hc2⟩ := hr2 (by rw [HN.out]; omega)
        subst ea2
        have gl2 := hr2.lt (by rw [HN.out]; omega)
        have CD : ∀ W, Below w1.heap.size w1 W → W.cell? ⟨g2, o2 + i, none⟩ = some (.int .u8 (data.getD i 0)) := fun W h => (World.cell?_of_block (a := ⟨g2, o2 + i, none⟩) (h.block g2 gl2)).trans (hc2 i (by rw [HN.out]; exact hlt))
        have CB : ∀ W, Rd W bg (some ⟨bg, bo, none⟩) .u8 Bk → W.cell? ⟨bg, bo + im, none⟩ = some (.int .u8 (Bk.getD im 0)) := fun W h => by
          obtain ⟨o3, e3, hc3⟩ := h (by rw [BL.out]; decide)
          simp only [Option.some.injEq, Addr.mk.injEq, true_and, and_true] at e3
          subst e3
          exact hc3 im (by rw [BL.out]; exact im64)
        clear him hc2
        generalize data.getD i 0 = dv at *
        generalize Bk.getD im 0 = bv at *
        have cd0 := CD wr sN
        have cb0 := CB wr bR
        have A0 : Hid (∃ v' w7, (Builtin.append_ #[22, 22] 22 #[u9, .slice (some ⟨wr.heap.size, 0, none⟩) 1 1]).run Try.prog (wr.drew.alloc (.cells #[.int .u8 (bits BinOp.xor IntKind.u8 dv bv)] 5)) = .ok v' w7 ∧ (RowB w7 w1.heap.size v' (fill f (i + 1)) ∧ Below w1.heap.size w1 w7 ∧ Rd w7 bg (some ⟨bg, bo, none⟩) .u8 Bk ∧ v'.ownBlock ≠ some bg ∧ bg < w7.heap.size ∧ (w7.cell? ⟨g2, o2 + i, none⟩ = some (.int .u8 dv) ∧ w7.cell? ⟨bg, bo + im, none⟩ = some (.int .u8 bv)))) := by
          have n6 : Below wr.heap.size wr (wr.drew.alloc (.cells #[.int .u8 (bits BinOp.xor IntKind.u8 dv bv)] 5)) := ((Below.refl _ _).drew).alloc (Nat.le_refl _) _
          have B6 : Blk (wr.drew.alloc (.cells #[.int .u8 (bits BinOp.xor IntKind.u8 dv bv)] 5)) wr.heap.size .u8 [bits BinOp.xor IntKind.u8 dv bv] := blk_lit1 wr.drew .u8 5 _
          have z6 : (wr.drew.alloc (.cells #[.int .u8 (bits BinOp.xor IntKind.u8 dv bv)] 5)).heap.size = wr.heap.size + 1 := by simp
          generalize wr.drew.alloc (.cells #[.int .u8 (bits BinOp.xor IntKind.u8 dv bv)] 5) = wz at *
          have sz := sN.size
          obtain ⟨v', w7, hap, o7, G7, W7⟩ := append_anyH (P := Try.prog) wz 22 i0 Try.underlying22 hi hz0 hz1 hz2 w1.heap.size _ _ (sV.up n6) wr.heap.size 0 1 [bits BinOp.xor IntKind.u8 dv bv] B6.own0.rd (by rw [FLn]; simp; omega) (by omega)
          have lo := fun k h => World.ownsRow.lt sV k h
          have N7 : Below w1.heap.size w1 w7 := (sN.trans (n6.mono sz)).trans ⟨G7.os, G7.tape, G7.output, G7.size, fun k hk => G7.block k (by omega) (fun e => by have := (lo k e.symm).1; omega)⟩
          have bR7 := (bR.up n6).of_block (G7.block bg (by omega) (fun e => bN e.symm))
          have s7 := G7.size
          refine ⟨v', w7, hap, by rw [FE.out]; exact o7, N7, bR7, ?_, by omega, CD _ N7, CB _ bR7⟩
          rcases W7 with h | h
          · rw [h]; exact bN
          · rw [h]; intro e; simp only [Option.some.injEq] at e; omega
        clear CD CB FE FS
        go_region_held3 (fun W => W.cell? ⟨g2, o2 + i, none⟩ = some (.int .u8 dv) ∧ W.cell? ⟨bg, bo + im, none⟩ = some (.int .u8 bv))
          (first | go_keep | exact S7)
          (first | (refine step_append_ex rfl (.tmp 46) (.tmp 57) 22 22 rfl _ (.slice (some ⟨wr.heap.size, 0, none⟩) 1 1) rfl rfl _ A0.out ?_; rintro v' w7 ⟨o7, N7, bR7, bN7, bl7, S7⟩) | fail)
        clear A0
        go_wp2
        go_roundw
        case rel => exact ⟨i + 1, by omega, by go_num, o7, fun h => ⟨bo, bc, bg, rfl, by rw [show (i + 1) / 64 = i / 64 by omega, HBk.out]; exact bR7, bN7, bl7⟩, N7⟩
        case measure => simp [intOf]; omega
    · obtain rfl : i = n := by omega
      obtain ⟨a3, c3, g3, rfl, o3, p3, q3, r3⟩ := hV.own
      have FL := hide (FLn i)
      go_wp2
      go_ret
      exact ⟨⟨a3, c3, g3, rfl, o3, p3, q3, r3⟩, hN⟩
set_option maxHeartbeats 1000000 in
theorem specXor_any (w : World) (g : Nat) (a : Option Addr) (c : Nat) (key : List Int) (hr : Rd w g a .u8 key) (hb : Byt key) (hc : key.length ≤ c) (ct : Int) (g' : Nat) (a' : Option Addr) (c' : Nat) (non : List Int) (hr' : Rd w g' a' .u8 non) (hb' : Byt non) (hc' : non.length ≤ c')
    (g2 : Nat) (a2 : Option Addr) (c2 : Nat) (data : List Int) (hr2 : Rd w g2 a2 .u8 data) (hn : data.length ≤ 4194304) :
    Calls Try.prog 36 #[.slice a key.length c, .int .i64 ct, .slice a' non.length c', .slice a2 data.length c2] w fun e w' => NewRow w.heap.size w' e .u8 (sxA key ct non data) ∧ Below w.heap.size w w' := by
  by_cases hf : fitB key ct non = true
  · have h := hf
    unfold fitB at h
    simp only [Bool.and_eq_true, decide_eq_true_eq] at h
    by_cases h3 : hasC ct data.length = true
    · have h3' := h3
      unfold hasC at h3'
      simp only [decide_eq_true_eq] at h3'
      have RS : sxA key ct non data = fill (sxF key ct non data) data.length := by unfold sxA; rw [if_pos ⟨hf, h3⟩]; exact sx_fill key ct non data
      rw [RS]
      exact specXor_core w g a c key hr hb hc ct h.2.1 h.2.2 g' a' c' non hr' hb' hc' g2 a2 c2 data hr2 hn hf h3'
    · have RS : Hid (sxA key ct non data = []) := by show _ = _; unfold sxA; rw [if_neg (fun h => h3 h.2)]
      rw [RS.out]
      unfold hasC at h3
      simp only [decide_eq_true_eq] at h3
      have FT := fits_any w a a' c c' key non ct
      rw [hf] at FT
      have h0 := h.2.1
      have h1 := h.2.2
      have q1 : decide ((4294967295 : Int) < ct + ((data.length : Int) + 63) / 64 - 1) = true := by simp; omega
      have cb0 : (0 : Int) ≤ ((data.length : Int) + 63) / 64 := by omega
      have cb1 : ((data.length : Int) + 63) / 64 ≤ 65537 := by omega
      clear hf RS h h3
      go_enter Try.func36, Try.ntmps36
      go_wp2_with fail
      refine FT.mono ?_
      rintro e w1 ⟨rfl, rfl⟩
      go_wp2
      go_ret
      exact ⟨newRow_e _ _, (Below.refl _ _).alloc (Nat.le_refl _) _⟩
  · have RS : Hid (sxA key ct non data = []) := by show _ = _; unfold sxA; rw [if_neg (fun h => hf h.1)]
    rw [RS.out]
    have FT := fits_any w a a' c c' key non ct
    rw [show fitB key ct non = false by simpa using hf] at FT
    clear hf RS
    go_enter Try.func36, Try.ntmps36
    go_wp2_with fail
    refine FT.mono ?_
    rintro e w1 ⟨rfl, rfl⟩
    go_wp2
    go_ret
    exact ⟨newRow_e _ _, (Below.refl _ _).alloc (Nat.le_refl _) _⟩
end Go.Proofs.Ytcljoaknaegpmaa

/-
  The model's StreamXor answers a row that may be appended to (written by gens/spr.py).
-/
namespace Go.Proofs.Ytcljoaknaegpmaa
open Go Go.RowKit

set_option maxRecDepth 100000 in
set_option maxHeartbeats 8000000 in
theorem specXorR_core (w : World) (g : Nat) (a : Option Addr) (c : Nat) (key : List Int) (hr : Rd w g a .u8 key) (hb : Byt key) (hc : key.length ≤ c) (ct : Int) (h0 : 0 ≤ ct) (h1 : ct ≤ 4294967295) (g' : Nat) (a' : Option Addr) (c' : Nat) (non : List Int) (hr' : Rd w g' a' .u8 non) (hb' : Byt non) (hc' : non.length ≤ c')
    (g2 : Nat) (a2 : Option Addr) (c2 : Nat) (data : List Int) (hr2 : Rd w g2 a2 .u8 data) (hn : data.length ≤ 4194304) (hf : fitB key ct non = true) (h3 : (data.length : Int) ≤ (4294967296 - ct) * 64) :
    Calls Try.prog 36 #[.slice a key.length c, .int .i64 ct, .slice a' non.length c', .slice a2 data.length c2] w fun e w' => (∃ v, e = .returned v ∧ RowB w' w.heap.size v (fill (sxF key ct non data) data.length)) ∧ Below w.heap.size w w' := by
  obtain ⟨i0, hi, hz0, hz1, hz2⟩ := info_parts Try.info5
  have FT := fits_any w a a' c c' key non ct
  rw [hf] at FT
  have SB := fun W (k : Nat) (n : Below w.heap.size w W) => hide (specBlock_any W g a c key (hr.up n) hb hc (ct + ((k / 64 : Nat) : Int)) g' a' c' non (hr'.up n) hb' hc')
  have SA : ∀ k, k < data.length → Hid (sbA key (ct + ((k / 64 : Nat) : Int)) non = strB key (ct + ((k / 64 : Nat) : Int)) non) := fun k hk => sbA_fit hf (by omega) (by omega)
  have BLl : ∀ c, (strB key c non).length = 64 := fun c => stB_len _
  have FS : ∀ i, fill (sxF key ct non data) (i + 1) = fill (sxF key ct non data) i ++ [bits BinOp.xor IntKind.u8 (data.getD i 0) ((strB key (ct + ((i / 64 : Nat) : Int)) non).getD (i % 64) 0)] := fun i => fill_succ _ _
  have FLn : ∀ i, (fill (sxF key ct non data) i).length = i := fun i => fill_len _ _
  have q1 : decide ((4294967295 : Int) < ct + ((data.length : Int) + 63) / 64 - 1) = false := by simp; omega
  have dn : (data.length : Int) ≤ 4194304 := by omega
  have hq1 := hide q1
  clear hf hr hr' hb hb' h3
  generalize sxF key ct non data = f at *
  generalize hlen : data.length = n at *
  have HN := hide hlen
  have cb0 : (0 : Int) ≤ ((n : Int) + 63) / 64 := by omega
  have cb1 : ((n : Int) + 63) / 64 ≤ 65537 := by omega
  go_enter Try.func36, Try.ntmps36
  go_wp2_with fail
  refine FT.mono ?_
  rintro e w1 ⟨rfl, rfl⟩
  clear FT
  have n1 : Below w1.heap.size w1 (w1.alloc (.cells #[] 5)) := (Below.refl _ _).alloc (Nat.le_refl _) _
  have R1 := RowB.lit0 w1
  have z1 : (w1.alloc (.cells #[] 5)).heap.size = w1.heap.size + 1 := by simp
  have n2 : Below (w1.alloc (.cells #[] 5)).heap.size (w1.alloc (.cells #[] 5)) ((w1.alloc (.cells #[] 5)).alloc (.cells #[] 5)) := (Below.refl _ _).alloc (Nat.le_refl _) _
  go_wp2
  have R2 := R1.up n2
  have N2 := nxt n1 n2
  generalize (w1.alloc (.cells #[] 5)).alloc (.cells #[] 5) = wa at *
  clear n1 n2 R1 z1
  go_loopw [9, 10, 11] (fun v b u wr => ∃ (i : Nat), i ≤ n ∧ u = .int .i64 i ∧ RowB wr w1.heap.size v (fill f i) ∧ (i % 64 ≠ 0 → ∃ (bo bc bg : Nat), b = .slice (some ⟨bg, bo, none⟩) 64 bc ∧ Rd wr bg (some ⟨bg, bo, none⟩) .u8 (strB key (ct + ((i / 64 : Nat) : Int)) non) ∧ v.ownBlock ≠ some bg ∧ bg < wr.heap.size) ∧ Below w1.heap.size w1 wr) (fun _ _ u _ => n - (intOf u).toNat)
  case atStart => exact ⟨0, Nat.zero_le _, rfl, R2, fun h => absurd rfl h, N2⟩
  case round =>
    obtain ⟨i, hin, rfl, hV, hBk, hN⟩ := hrel
    clear R2 N2
    by_cases hlt : i < n
    · have iI : (i : Int) < (n : Int) := by omega
      by_cases h64 : i % 64 = 0
      · have e64 : (i : Int) % 64 = 0 := by omega
        have SBi := SB wr i hN
        rw [(SA i hlt).out] at SBi
        have BL := hide (BLl (ct + ((i / 64 : Nat) : Int)))
        obtain ⟨Bk, hBk'⟩ : ∃ b, b = strB key (ct + ((i / 64 : Nat) : Int)) non := ⟨_, rfl⟩
        rw [← hBk'] at SBi BL
        obtain ⟨kq, hkq⟩ : ∃ k, k = i / 64 := ⟨_, rfl⟩
        rw [← hkq] at SBi
        have d64 : (i : Int) / 64 = (kq : Int) := by omega
        have b64 : (kq : Int) ≤ 65537 := by omega
        have b65 : 0 ≤ ct + (kq : Int) := by omega
        have b66 : ct + (kq : Int) ≤ 4295032833 := by omega
        clear hkq
        have HBk := hide hBk'.symm
        clear hBk' hBk SB SA
        go_wp2_with fail
        refine SBi.out.mono ?_
        rintro e w3 ⟨⟨ba, bc, bg, rfl, bO, bp, bq, br⟩, n3⟩
        obtain ⟨bo, eb, -⟩ := bO.rd (by rw [BL.out]; decide)
        subst eb
        have bR := bO.rd
        rw [BL.out]
        have sV := hV.up n3
        have sN := nxt hN n3
        have bl := bR.lt (by rw [BL.out]; decide)
        have bN : Value.ownBlock u9 ≠ some bg := fun e => by have := (World.ownsRow.lt hV bg e).2; omega
        clear SBi bO bp bq hV hN n3
        go_wp2_with fail
        clear e64 d64
        obtain ⟨im, him⟩ : ∃ m, m = i % 64 := ⟨_, rfl⟩
        have m64 : (i : Int) % 64 = (im : Int) := by omega
        have l64 : (im : Int) < 64 := by omega
        have k64 : (0 : Int) ≤ (im : Int) := by omega
        have mt : Int.tmod (i : Int) 64 = (im : Int) := by rw [Int.tmod_eq_emod_of_nonneg (by omega)]; exact m64
        have i00 : (0 : Int) ≤ (i : Int) := by omega
        have im64 : im < 64 := by omega
        have FE : Hid (fill f (i + 1) = fill f i ++ [bits BinOp.xor IntKind.u8 (data.getD i 0) (Bk.getD im 0)]) := by show _ = _; rw [FS i, HBk.out, him]
        obtain ⟨o2, ea2, hc2⟩ := hr2 (by rw [HN.out]; omega)
        subst ea2
        have gl2 := hr2.lt (by rw [HN.out]; omega)
        have CD : ∀ W, Below w1.heap.size w1 W → W.cell? ⟨g2, o2 + i, none⟩ = some (.int .u8 (data.getD i 0)) := fun W h => (World.cell?_of_block (a := ⟨g2, o2 + i, none⟩) (h.block g2 gl2)).trans (hc2 i (by rw [HN.out]; exact hlt))
        have CB : ∀ W, Rd W bg (some ⟨bg, bo, none⟩) .u8 Bk → W.cell? ⟨bg, bo + im, none⟩ = some (.int .u8 (Bk.getD im 0)) := fun W h => by
          obtain ⟨o3, e3, hc3⟩ := h (by rw [BL.out]; decide)
          simp only [Option.some.injEq, Addr.mk.injEq, true_and, and_true] at e3
          subst e3
          exact hc3 im (by rw [BL.out]; exact im64)
        clear him hc2
        generalize data.getD i 0 = dv at *
        generalize Bk.getD im 0 = bv at *
        have cd0 := CD w3 sN
        have cb0 := CB w3 bR
        have A0 : Hid (∃ v' w7, (Builtin.append_ #[22, 22] 22 #[u9, .slice (some ⟨w3.heap.size, 0, none⟩) 1 1]).run Try.prog (w3.drew.alloc (.cells #[.int .u8 (bits BinOp.xor IntKind.u8 dv bv)] 5)) = .ok v' w7 ∧ (RowB w7 w1.heap.size v' (fill f (i + 1)) ∧ Below w1.heap.size w1 w7 ∧ Rd w7 bg (some ⟨bg, bo, none⟩) .u8 Bk ∧ v'.ownBlock ≠ some bg ∧ bg < w7.heap.size ∧ (w7.cell? ⟨g2, o2 + i, none⟩ = some (.int .u8 dv) ∧ w7.cell? ⟨bg, bo + im, none⟩ = some (.int .u8 bv)))) := by
          have n6 : Below w3.heap.size w3 (w3.drew.alloc (.cells #[.int .u8 (bits BinOp.xor IntKind.u8 dv bv)] 5)) := ((Below.refl _ _).drew).alloc (Nat.le_refl _) _
          have B6 : Blk (w3.drew.alloc (.cells #[.int .u8 (bits BinOp.xor IntKind.u8 dv bv)] 5)) w3.heap.size .u8 [bits BinOp.xor IntKind.u8 dv bv] := blk_lit1 w3.drew .u8 5 _
          have z6 : (w3.drew.alloc (.cells #[.int .u8 (bits BinOp.xor IntKind.u8 dv bv)] 5)).heap.size = w3.heap.size + 1 := by simp
          generalize w3.drew.alloc (.cells #[.int .u8 (bits BinOp.xor IntKind.u8 dv bv)] 5) = wz at *
          have sz := sN.size
          obtain ⟨v', w7, hap, o7, G7, W7⟩ := append_anyH (P := Try.prog) wz 22 i0 Try.underlying22 hi hz0 hz1 hz2 w1.heap.size _ _ (sV.up n6) w3.heap.size 0 1 [bits BinOp.xor IntKind.u8 dv bv] B6.own0.rd (by rw [FLn]; simp; omega) (by omega)
          have lo := fun k h => World.ownsRow.lt sV k h
          have N7 : Below w1.heap.size w1 w7 := (sN.trans (n6.mono sz)).trans ⟨G7.os, G7.tape, G7.output, G7.size, fun k hk => G7.block k (by omega) (fun e => by have := (lo k e.symm).1; omega)⟩
          have bR7 := (bR.up n6).of_block (G7.block bg (by omega) (fun e => bN e.symm))
          have s7 := G7.size
          refine ⟨v', w7, hap, by rw [FE.out]; exact o7, N7, bR7, ?_, by omega, CD _ N7, CB _ bR7⟩
          rcases W7 with h | h
          · rw [h]; exact bN
          · rw [h]; intro e; simp only [Option.some.injEq] at e; omega
        clear CD CB FE FS
        go_region_held3 (fun W => W.cell? ⟨g2, o2 + i, none⟩ = some (.int .u8 dv) ∧ W.cell? ⟨bg, bo + im, none⟩ = some (.int .u8 bv))
          (first | go_keep | exact S7)
          (first | (refine step_append_ex rfl (.tmp 46) (.tmp 57) 22 22 rfl _ (.slice (some ⟨w3.heap.size, 0, none⟩) 1 1) rfl rfl _ A0.out ?_; rintro v' w7 ⟨o7, N7, bR7, bN7, bl7, S7⟩) | fail)
        clear A0
        go_wp2
        go_roundw
        case rel => exact ⟨i + 1, by omega, by go_num, o7, fun h => ⟨bo, bc, bg, rfl, by rw [show (i + 1) / 64 = i / 64 by omega, HBk.out]; exact bR7, bN7, bl7⟩, N7⟩
        case measure => simp [intOf]; omega
      · obtain ⟨bo, bc, bg, rfl, bR, bN, bl⟩ := hBk h64
        have e64 : ¬ ((i : Int) % 64 = 0) := by omega
        have BL := hide (BLl (ct + ((i / 64 : Nat) : Int)))
        obtain ⟨Bk, hBk'⟩ : ∃ b, b = strB key (ct + ((i / 64 : Nat) : Int)) non := ⟨_, rfl⟩
        rw [← hBk'] at bR BL
        have HBk := hide hBk'.symm
        clear hBk' hBk SB SA
        have sV := hV
        have sN := hN
        clear hV hN
        go_wp2_with fail
        clear e64
        obtain ⟨im, him⟩ : ∃ m, m = i % 64 := ⟨_, rfl⟩
        have m64 : (i : Int) % 64 = (im : Int) := by omega
        have l64 : (im : Int) < 64 := by omega
        have k64 : (0 : Int) ≤ (im : Int) := by omega
        have mt : Int.tmod (i : Int) 64 = (im : Int) := by rw [Int.tmod_eq_emod_of_nonneg (by omega)]; exact m64
        have i00 : (0 : Int) ≤ (i : Int) := by omega
        have im64 : im < 64 := by omega
        have FE : Hid (fill f (i + 1) = fill f i ++ [bits BinOp.xor IntKind.u8 (data.getD i 0) (Bk.getD im 0)]) := by show _ = _; rw [FS i, HBk.out, him]
        obtain ⟨o2, ea2, hc2⟩ := hr2 (by rw [HN.out]; omega)
        subst ea2
        have gl2 := hr2.lt (by rw [HN.out]; omega)
        have CD : ∀ W, Below w1.heap.size w1 W → W.cell? ⟨g2, o2 + i, none⟩ = some (.int .u8 (data.getD i 0)) := fun W h => (World.cell?_of_block (a := ⟨g2, o2 + i, none⟩) (h.block g2 gl2)).trans (hc2 i (by rw [HN.out]; exact hlt))
        have CB : ∀ W, Rd W bg (some ⟨bg, bo, none⟩) .u8 Bk → W.cell? ⟨bg, bo + im, none⟩ = some (.int .u8 (Bk.getD im 0)) := fun W h => by
          obtain ⟨o3, e3, hc3⟩ := h (by rw [BL.out]; decide)
          simp only [Option.some.injEq, Addr.mk.injEq, true_and, and_true] at e3
          subst e3
          exact hc3 im (by rw [BL.out]; exact im64)
        clear him hc2
        generalize data.getD i 0 = dv at *
        generalize Bk.getD im 0 = bv at *
        have cd0 := CD wr sN
        have cb0 := CB wr bR
        have A0 : Hid (∃ v' w7, (Builtin.append_ #[22, 22] 22 #[u9, .slice (some ⟨wr.heap.size, 0, none⟩) 1 1]).run Try.prog (wr.drew.alloc (.cells #[.int .u8 (bits BinOp.xor IntKind.u8 dv bv)] 5)) = .ok v' w7 ∧ (RowB w7 w1.heap.size v' (fill f (i + 1)) ∧ Below w1.heap.size w1 w7 ∧ Rd w7 bg (some ⟨bg, bo, none⟩) .u8 Bk ∧ v'.ownBlock ≠ some bg ∧ bg < w7.heap.size ∧ (w7.cell? ⟨g2, o2 + i, none⟩ = some (.int .u8 dv) ∧ w7.cell? ⟨bg, bo + im, none⟩ = some (.int .u8 bv)))) := by
          have n6 : Below wr.heap.size wr (wr.drew.alloc (.cells #[.int .u8 (bits BinOp.xor IntKind.u8 dv bv)] 5)) := ((Below.refl _ _).drew).alloc (Nat.le_refl _) _
          have B6 : Blk (wr.drew.alloc (.cells #[.int .u8 (bits BinOp.xor IntKind.u8 dv bv)] 5)) wr.heap.size .u8 [bits BinOp.xor IntKind.u8 dv bv] := blk_lit1 wr.drew .u8 5 _
          have z6 : (wr.drew.alloc (.cells #[.int .u8 (bits BinOp.xor IntKind.u8 dv bv)] 5)).heap.size = wr.heap.size + 1 := by simp
          generalize wr.drew.alloc (.cells #[.int .u8 (bits BinOp.xor IntKind.u8 dv bv)] 5) = wz at *
          have sz := sN.size
          obtain ⟨v', w7, hap, o7, G7, W7⟩ := append_anyH (P := Try.prog) wz 22 i0 Try.underlying22 hi hz0 hz1 hz2 w1.heap.size _ _ (sV.up n6) wr.heap.size 0 1 [bits BinOp.xor IntKind.u8 dv bv] B6.own0.rd (by rw [FLn]; simp; omega) (by omega)
          have lo := fun k h => World.ownsRow.lt sV k h
          have N7 : Below w1.heap.size w1 w7 := (sN.trans (n6.mono sz)).trans ⟨G7.os, G7.tape, G7.output, G7.size, fun k hk => G7.block k (by omega) (fun e => by have := (lo k e.symm).1; omega)⟩
          have bR7 := (bR.up n6).of_block (G7.block bg (by omega) (fun e => bN e.symm))
          have s7 := G7.size
          refine ⟨v', w7, hap, by rw [FE.out]; exact o7, N7, bR7, ?_, by omega, CD _ N7, CB _ bR7⟩
          rcases W7 with h | h
          · rw [h]; exact bN
          · rw [h]; intro e; simp only [Option.some.injEq] at e; omega
        clear CD CB FE FS
        go_region_held3 (fun W => W.cell? ⟨g2, o2 + i, none⟩ = some (.int .u8 dv) ∧ W.cell? ⟨bg, bo + im, none⟩ = some (.int .u8 bv))
          (first | go_keep | exact S7)
          (first | (refine step_append_ex rfl (.tmp 46) (.tmp 57) 22 22 rfl _ (.slice (some ⟨wr.heap.size, 0, none⟩) 1 1) rfl rfl _ A0.out ?_; rintro v' w7 ⟨o7, N7, bR7, bN7, bl7, S7⟩) | fail)
        clear A0
        go_wp2
        go_roundw
        case rel => exact ⟨i + 1, by omega, by go_num, o7, fun h => ⟨bo, bc, bg, rfl, by rw [show (i + 1) / 64 = i / 64 by omega, HBk.out]; exact bR7, bN7, bl7⟩, N7⟩
        case measure => simp [intOf]; omega
    · obtain rfl : i = n := by omega
      obtain ⟨a3, c3, g3, rfl, -, -, -, -⟩ := hV.own
      clear FLn
      go_wp2
      go_ret
      exact ⟨⟨_, rfl, hV⟩, hN⟩
end Go.Proofs.Ytcljoaknaegpmaa

/-
  The model's l8Summed, l8Sum and Seal (written by gens/pzd.py).
-/
namespace Go.Proofs.Ytcljoaknaegpmaa
open Go Go.RowKit

/-- A row that may be read. -/
def Fact.ro (xs : List Int) : Fact := ⟨fun v W => ∃ (a : Option Addr) (c g : Nat), v = .slice a xs.length c ∧ Rd W g a .u8 xs ∧ xs.length ≤ c ∧ (a = none → c = 0), fun h ⟨a, c, g, e, r, l, p⟩ => ⟨a, c, g, e, r.up h, l, p⟩⟩
set_option maxHeartbeats 1000000 in
theorem l1CopyR_any (w : World) (g : Nat) (a : Option Addr) (c : Nat) (xs : List Int) (hr : Rd w g a .u8 xs) (hc : a = none → c = 0) (hn : xs.length ≤ 4194304) :
    Calls Try.prog 22 #[.slice a xs.length c] w fun e w' => (∃ v, e = .returned v ∧ RowB w' w.heap.size v xs) ∧ Below w.heap.size w w' := by
  obtain ⟨i0, hi, hz0, hz1, hz2⟩ := info_parts Try.info5
  have hal : Below w.heap.size w (w.alloc (.cells #[] 5)) := (Below.refl _ _).alloc (Nat.le_refl _) _
  obtain ⟨v', w2, hap, o2, n2⟩ := append_any (P := Try.prog) (w.alloc (.cells #[] 5)) 22 i0 Try.underlying22 hi hz0 hz1 hz2 w.heap.size w.heap.size _ [] (RowB.lit0 w) g a c xs (hr.up hal) hc (by simp; omega) (Nat.le_refl _) (by simp)
  rw [List.nil_append] at o2
  go_enter Try.func22, Try.ntmps22
  go_wp2_with (at_builtin; refine Lib.wpList_append_run _ rfl _ _ 22 22 rfl _ _ rfl rfl _ _ hap ?_)
  go_ret
  exact ⟨⟨_, rfl, o2⟩, hal.trans n2⟩
theorem len_bval {ys : List Int} {n : Int} (_ : Byt ys) (_ : bval ys = n) (h : ys.length ≤ 1048576) : ys.length ≤ 1048576 := h
theorem little_len (ys : List Int) (n : Nat) (h : Byt ys) (v : bval ys = (n : Int)) : fill (dig ys) 8 = len8 n := fill_congr fun i _ => by rw [dig_of h, v]
set_option maxRecDepth 100000 in
set_option maxHeartbeats 8000000 in
theorem l8Summed_any (w : World) (ge : Nat) (ae : Option Addr) (ce : Nat) (ex : List Int) (he : Rd w ge ae .u8 ex) (en : ae = none → ce = 0)
    (gt : Nat) (at' : Option Addr) (ct : Nat) (tx : List Int) (ht : Rd w gt at' .u8 tx) (tn : at' = none → ct = 0) (hs : ex.length + tx.length ≤ 4000000) :
    Calls Try.prog 57 #[.slice ae ex.length ce, .slice at' tx.length ct] w fun e w' => NewRow w.heap.size w' e .u8 (smd ex tx) ∧ Below w.heap.size w w' := by
  obtain ⟨i0, hi, hz0, hz1, hz2⟩ := info_parts Try.info5
  have z1 := zpad_len ex.length
  have z2 := zpad_len tx.length
  have l1 := len8_len ex.length
  have l2 := len8_len tx.length
  have ZZ := hide (show (zpad ex.length).length < 16 ∧ (zpad tx.length).length < 16 ∧ (len8 ex.length).length = 8 ∧ (len8 tx.length).length = 8 from ⟨z1, z2, l1, l2⟩)
  have HS := hide hs
  have SMD : Hid (smd ex tx = ex ++ zpad ex.length ++ tx ++ zpad tx.length ++ len8 ex.length ++ len8 tx.length) := rfl
  have eL : ex.length ≤ 4194304 := by omega
  have tL : tx.length ≤ 4194304 := by omega
  clear z1 z2 l1 l2 hs
  go_enter Try.func57, Try.ntmps57
  go_wp2_with fail
  refine (l1CopyR_any w ge ae ce ex he en eL).mono ?_
  rintro e w1 ⟨⟨v1, rfl, R1⟩, N1⟩
  go_wp2_with fail
  refine (l8Zeros_any w1 ex.length eL).mono ?_
  rintro e w2 ⟨⟨a2, c2, g2, rfl, o2, p2, q2, r2⟩, n2⟩
  have N2 := nxt N1 n2
  obtain ⟨v3, w3, hap3, R3, n3⟩ := append_any (P := Try.prog) w2 22 i0 Try.underlying22 hi hz0 hz1 hz2 w.heap.size w.heap.size _ _ (R1.up n2) g2 a2 c2 _ o2.rd p2 (by have := ZZ.out; omega) (Nat.le_refl _) N2.size
  have N3 := N2.trans n3
  clear R1 o2 n2 n3 N1 N2
  go_upto_region 2 with (at_builtin; refine Lib.wpList_append_run _ rfl _ _ 22 22 rfl _ _ rfl rfl _ _ hap3 ?_)
  clear hap3
  obtain ⟨v4, w4, hap4, R4, n4⟩ := append_any (P := Try.prog) w3 22 i0 Try.underlying22 hi hz0 hz1 hz2 w.heap.size w.heap.size _ _ R3 gt at' ct tx (ht.up N3) tn (by rw [List.length_append]; have := ZZ.out; have := HS.out; omega) (Nat.le_refl _) N3.size
  have N4 := N3.trans n4
  clear R3 n4 N3
  go_upto_region 3 with (at_builtin; refine Lib.wpList_append_run _ rfl _ _ 22 22 rfl _ _ rfl rfl _ _ hap4 ?_)
  clear hap4
  go_wp2_with fail
  refine (l8Zeros_any w4 tx.length tL).mono ?_
  rintro e w5 ⟨⟨a5, c5, g5, rfl, o5, p5, q5, r5'⟩, n5⟩
  have N5 := nxt N4 n5
  obtain ⟨v6, w6, hap6, R6, n6⟩ := append_any (P := Try.prog) w5 22 i0 Try.underlying22 hi hz0 hz1 hz2 w.heap.size w.heap.size _ _ (R4.up n5) g5 a5 c5 _ o5.rd p5 (by rw [List.length_append, List.length_append]; have := ZZ.out; have := HS.out; omega) (Nat.le_refl _) N5.size
  have N6 := N5.trans n6
  clear R4 o5 n5 n6 N4 N5
  go_upto_region 4 with (at_builtin; refine Lib.wpList_append_run _ rfl _ _ 22 22 rfl _ _ rfl rfl _ _ hap6 ?_)
  clear hap6
  go_wp2_with fail
  refine (l1Int_any w6 ex.length eL).mono ?_
  rintro e w7 ⟨ns, hns, ⟨a7, c7, g7, rfl, o7, p7, q7, r7⟩, n7⟩
  have LL := hide (l1Little_any w7 g7 a7 c7 ns 8 o7.rd hns.1 (by have := len_bval hns.1 hns.2.1 hns.2.2; omega) (by omega))
  rw [little_len ns ex.length hns.1 hns.2.1] at LL
  go_wp2_with fail
  refine LL.out.mono ?_
  rintro e w8 ⟨rfl, B8, n8⟩
  have N8 := nxt (nxt N6 n7) n8
  obtain ⟨v9, w9, hap9, R9, n9⟩ := append_any (P := Try.prog) w8 22 i0 Try.underlying22 hi hz0 hz1 hz2 w.heap.size w.heap.size _ _ ((R6.up n7).up n8) w7.heap.size (some ⟨w7.heap.size, 0, none⟩) 8 _ B8.own0.rd (by simp) (by rw [List.length_append, List.length_append, List.length_append]; have := ZZ.out; have := HS.out; omega) (Nat.le_refl _) N8.size
  rw [ZZ.out.2.2.1] at hap9
  have N9 := N8.trans n9
  clear R6 o7 n7 n8 B8 n9 N6 N8 LL hns
  go_upto_region 5 with (at_builtin; refine Lib.wpList_append_run _ rfl _ _ 22 22 rfl _ _ rfl rfl _ _ hap9 ?_)
  clear hap9
  go_wp2_with fail
  refine (l1Int_any w9 tx.length tL).mono ?_
  rintro e wa ⟨ms, hms, ⟨aa, ca, ga, rfl, oa, pa, qa, ra⟩, na⟩
  have LL := hide (l1Little_any wa ga aa ca ms 8 oa.rd hms.1 (by have := len_bval hms.1 hms.2.1 hms.2.2; omega) (by omega))
  rw [little_len ms tx.length hms.1 hms.2.1] at LL
  go_wp2_with fail
  refine LL.out.mono ?_
  rintro e wb ⟨rfl, Bb, nb⟩
  have Nb := nxt (nxt N9 na) nb
  obtain ⟨vc, wc, hapc, Rc, nc⟩ := append_any (P := Try.prog) wb 22 i0 Try.underlying22 hi hz0 hz1 hz2 w.heap.size w.heap.size _ _ ((R9.up na).up nb) wa.heap.size (some ⟨wa.heap.size, 0, none⟩) 8 _ Bb.own0.rd (by simp) (by rw [List.length_append, List.length_append, List.length_append, List.length_append]; have := ZZ.out; have := HS.out; omega) (Nat.le_refl _) Nb.size
  rw [ZZ.out.2.2.2] at hapc
  have Nc := Nb.trans nc
  rw [← SMD.out] at Rc
  clear R9 oa na nb Bb nc N9 Nb LL hms
  go_wp2_with (at_builtin; refine Lib.wpList_append_run _ rfl _ _ 22 22 rfl _ _ rfl rfl _ _ hapc ?_)
  go_ret
  obtain ⟨ad, cd, gd, rfl, od, pd, qd, rd⟩ := Rc.own
  exact ⟨⟨ad, cd, gd, rfl, od, pd, qd, rd⟩, Nc⟩

end Go.Proofs.Ytcljoaknaegpmaa

/-
  The model's l8Sum and Seal (written by gens/pze.py).
-/
namespace Go.Proofs.Ytcljoaknaegpmaa
open Go Go.RowKit

theorem fit0 {key non : List Int} (h : fitK key non = true) : fitB key 0 non = true := by
  unfold fitK at h
  unfold fitB
  rw [h]
  rfl
theorem fit0' {key non : List Int} (h : fitK key non = false) : fitB key 0 non = false := by
  unfold fitK at h
  unfold fitB
  rw [h]
  rfl
theorem fit1 {key non : List Int} (h : fitK key non = true) : fitB key 1 non = true := by
  unfold fitK at h
  unfold fitB
  rw [h]
  rfl
set_option maxRecDepth 100000 in
set_option maxHeartbeats 8000000 in
theorem l8Sum_any (w : World) (g : Nat) (a : Option Addr) (c : Nat) (key : List Int) (hr : Rd w g a .u8 key) (hb : Byt key) (hc : key.length ≤ c) (g' : Nat) (a' : Option Addr) (c' : Nat) (non : List Int) (hr' : Rd w g' a' .u8 non) (hb' : Byt non) (hc' : non.length ≤ c') (hf : fitK key non = true)
    (ge : Nat) (ae : Option Addr) (ce : Nat) (ex : List Int) (he : Rd w ge ae .u8 ex) (eb : Byt ex) (en : ae = none → ce = 0)
    (gt : Nat) (at' : Option Addr) (ct : Nat) (tx : List Int) (ht : Rd w gt at' .u8 tx) (tb : Byt tx) (tn : at' = none → ct = 0) (hs : ex.length + tx.length ≤ 4000000) :
    Calls Try.prog 37 #[.slice a key.length c, .slice a' non.length c', .slice ae ex.length ce, .slice at' tx.length ct] w fun e w' => ∃ (x : Option Addr) (y z : Nat), e = .returned (.slice x 16 y) ∧ Rd w' z x .u8 (ssB (nsW key non) ex tx) ∧ (x = none → y = 0) ∧ Below w.heap.size w w' := by
  have SBv : Hid (sbA key 0 non = strB key 0 non) := by show _ = _; unfold sbA; rw [if_pos (fit0 hf)]
  have BL : Hid ((strB key 0 non).length = 64) := stB_len _
  have BB : Hid (Byt (strB key 0 non)) := stB_byt _
  have SSB : Hid (ssB (nsW key non) ex tx = otB ((strB key 0 non).take 32) (smd ex tx)) := rfl
  have SB := fun W (n : Below w.heap.size w W) => hide (specBlock_any W g a c key (hr.up n) hb hc 0 g' a' c' non (hr'.up n) hb' hc')
  simp only [SBv.out] at SB
  have SMl := smd_len ex tx
  have SMB := hide (smd_byt eb tb)
  have SM := fun W (n : Below w.heap.size w W) => hide (l8Summed_any W ge ae ce ex (he.up n) en gt at' ct tx (ht.up n) tn hs)
  have SL := hide (ssB_len (nsW key non) ex tx)
  generalize strB key 0 non = ks at *
  have TL : Hid ((ks.take 32).length = 32) := by show _ = _; rw [List.length_take, BL.out]; rfl
  have OT : Hid (otA (ks.take 32) (smd ex tx) = ssB (nsW key non) ex tx) := by show _ = _; unfold otA; rw [if_pos TL.out, SSB.out]
  have SML : Hid ((smd ex tx).length ≤ 4194304) := by show _ ≤ _; omega
  generalize smd ex tx = sm at *
  clear hf SBv SMl
  go_enter Try.func37, Try.ntmps37
  go_wp2_with fail
  refine region_end 9 (fun i => [Fact.eq (.slice a key.length c), Fact.eq (.slice a' non.length c'), Fact.ro ks, Fact.ro (ks.take 32), Fact.eq (.slice ae ex.length ce), Fact.eq (.slice at' tx.length ct), Fact.ro sm, Fact.ro (ssB (nsW key non) ex tx), Fact.ro (ssB (nsW key non) ex tx)].getD i Fact.no) (by kernel_rfl) (by kernel_rfl) rfl ?_ ?_
  · intro i hi
    obtain rfl | rfl | rfl | rfl | rfl | rfl | rfl | rfl | rfl : i = 0 ∨ i = 1 ∨ i = 2 ∨ i = 3 ∨ i = 4 ∨ i = 5 ∨ i = 6 ∨ i = 7 ∨ i = 8 := by omega
    · refine step_pure rfl fun f u hb hw hf => ?_
      have e0 : f.tmps[0]?.getD undef = .slice a key.length c := gdv (hb.2.2 0 (by kernel_rfl))
      exact ⟨.slice a key.length c, by simp [go_sem, e0], rfl⟩
    · refine step_pure rfl fun f u hb hw hf => ?_
      have e1 : f.tmps[1]?.getD undef = .slice a' non.length c' := gdv (hb.2.2 1 (by kernel_rfl))
      exact ⟨.slice a' non.length c', by simp [go_sem, e1], rfl⟩
    · refine step_callv rfl 55 _ _ rfl (by kernel_rfl) fun f u hb hw hf => ?_
      have e9 : f.tmps.getD 9 undef = .slice a key.length c := hf 0 9 (by kernel_rfl)
      have e10 : f.tmps.getD 10 undef = .slice a' non.length c' := hf 1 10 (by kernel_rfl)
      show Calls Try.prog 55 #[f.tmps.getD 9 undef, .int .i64 0, f.tmps.getD 10 undef] u _
      rw [e9, e10]
      exact (SB u hw).out.mono (by rintro e w' ⟨⟨x, y, z, rfl, o, p, q, r⟩, n⟩; exact ⟨_, rfl, n, x, y, z, rfl, o.rd, q, p⟩)
    · refine step_pure rfl fun f u hb hw hf => ?_
      obtain ⟨x, y, z, e11, R, l, p⟩ := hf 2 11 (by kernel_rfl)
      obtain ⟨o, rfl, hcc⟩ := R (by rw [BL.out]; omega)
      have e11' : f.tmps[11]?.getD undef = .slice (some ⟨z, o, none⟩) 64 y := (gdv e11).trans (by rw [BL.out])
      have y1 : (32 : Int) ≤ (y : Int) := by have := BL.out; omega
      refine ⟨.slice (some ⟨z, o, none⟩) 32 y, by simp [go_sem, e11', y1], some ⟨z, o, none⟩, y, z, by rw [TL.out], fun _ => ⟨o, rfl, fun j hj => ?_⟩, by rw [TL.out]; omega, by simp⟩
      rw [TL.out] at hj
      rw [hcc j (by rw [BL.out]; omega), List.getD_eq_getElem?_getD, List.getD_eq_getElem?_getD, List.getElem?_take, if_pos hj]
    · refine step_pure rfl fun f u hb hw hf => ?_
      have e2 : f.tmps[2]?.getD undef = .slice ae ex.length ce := gdv (hb.2.2 2 (by kernel_rfl))
      exact ⟨.slice ae ex.length ce, by simp [go_sem, e2], rfl⟩
    · refine step_pure rfl fun f u hb hw hf => ?_
      have e3 : f.tmps[3]?.getD undef = .slice at' tx.length ct := gdv (hb.2.2 3 (by kernel_rfl))
      exact ⟨.slice at' tx.length ct, by simp [go_sem, e3], rfl⟩
    · refine step_callv rfl 57 _ _ rfl (by kernel_rfl) fun f u hb hw hf => ?_
      have e13 : f.tmps.getD 13 undef = .slice ae ex.length ce := hf 4 13 (by kernel_rfl)
      have e14 : f.tmps.getD 14 undef = .slice at' tx.length ct := hf 5 14 (by kernel_rfl)
      show Calls Try.prog 57 #[f.tmps.getD 13 undef, f.tmps.getD 14 undef] u _
      rw [e13, e14]
      exact (SM u hw).out.mono (by rintro e w' ⟨⟨x, y, z, rfl, o, p, q, r⟩, n⟩; exact ⟨_, rfl, n, x, y, z, rfl, o.rd, q, p⟩)
    · refine step_callv rfl 56 _ _ rfl (by kernel_rfl) fun f u hb hw hf => ?_
      obtain ⟨x1, y1, z1, e12, R1, l1, -⟩ := hf 3 12 (by kernel_rfl)
      obtain ⟨x2, y2, z2, e15, R2, l2, -⟩ := hf 6 15 (by kernel_rfl)
      show Calls Try.prog 56 #[f.tmps.getD 12 undef, f.tmps.getD 15 undef] u _
      rw [e12, e15]
      have h := specOneTime_any u z1 x1 y1 (ks.take 32) R1 (byt_take BB.out 32) l1 z2 x2 y2 sm R2 SMB.out SML.out
      rw [OT.out] at h
      exact h.mono (by rintro e w' ⟨⟨x, y, z, rfl, o, p, q, r⟩, n⟩; exact ⟨_, rfl, n, x, y, z, rfl, o.rd, q, p⟩)
    · refine step_pure rfl fun f u hb hw hf => ?_
      obtain ⟨x, y, z, e16, R, l, p⟩ := hf 7 16 (by kernel_rfl)
      have e16' : f.tmps[16]?.getD undef = .slice x (ssB (nsW key non) ex tx).length y := gdv e16
      exact ⟨.slice x (ssB (nsW key non) ex tx).length y, by simp [go_sem, e16'], x, y, z, rfl, R, l, p⟩
  · intro f w8 hb K8 hF
    obtain ⟨x, y, z, e8, R8, -, p8⟩ := hF 8 8 (by kernel_rfl)
    obtain ⟨vs', hvs'⟩ : ∃ vs : Nat → Value, ∀ d, f.tmps.getD d undef = vs d := ⟨_, fun _ => rfl⟩
    have ea := puts_of (md := .any) (n := 17) (k := 9) (by kernel_rfl) rfl hb vs' hvs'
    have v8 : vs' 8 = .slice x 16 y := (hvs' 8).symm.trans (e8.trans (by rw [SL.out]))
    rw [ea]
    clear ea hvs' hF hb e8
    simp only [puts, v8, Act.put, List.setIfInBounds_toArray, List.set_cons_succ, List.set_cons_zero]
    go_wp2
    go_ret
    exact ⟨x, y, z, rfl, R8, p8, K8⟩
set_option maxRecDepth 100000 in
set_option maxHeartbeats 8000000 in
theorem specSeal_any (w : World) (g : Nat) (a : Option Addr) (c : Nat) (key : List Int) (hr : Rd w g a .u8 key) (hb : Byt key) (hc : key.length ≤ c) (g' : Nat) (a' : Option Addr) (c' : Nat) (non : List Int) (hr' : Rd w g' a' .u8 non) (hb' : Byt non) (hc' : non.length ≤ c')
    (ge : Nat) (ae : Option Addr) (ce : Nat) (ex : List Int) (he : Rd w ge ae .u8 ex) (eb : Byt ex) (en : ae = none → ce = 0)
    (g2 : Nat) (a2 : Option Addr) (c2 : Nat) (data : List Int) (hr2 : Rd w g2 a2 .u8 data) (db : Byt data) (hs : ex.length + data.length ≤ 4000000) :
    Calls Try.prog 23 #[.slice a key.length c, .slice a' non.length c', .slice ae ex.length ce, .slice a2 data.length c2] w fun e w' => (∃ v, e = .returned v ∧ RowB w' w.heap.size v (seA key non ex data)) ∧ Below w.heap.size w w' := by
  obtain ⟨i0, hi, hz0, hz1, hz2⟩ := info_parts Try.info5
  have FT := fits_any w a a' c c' key non 0
  by_cases h1 : fitK key non = true
  · rw [fit0 h1] at FT
    have RS : Hid (seA key non ex data = xt key non data ++ ssB (nsW key non) ex (xt key non data)) := by show _ = _; unfold seA; rw [if_pos h1]
    rw [RS.out]
    have XS := hide (specXorR_core w g a c key hr hb hc 1 (by omega) (by omega) g' a' c' non hr' hb' hc' g2 a2 c2 data hr2 (by omega) (fit1 h1) (by omega))
    have XT : Hid (fill (sxF key 1 non data) data.length = xt key non data) := (sx_fill key 1 non data).symm
    rw [XT.out] at XS
    have XB := hide (xt_byt key non db)
    have XL := hide (xt_len key non data)
    generalize xt key non data = T at *
    have HS := hide (show ex.length + T.length ≤ 4000000 by rw [XL.out]; exact hs)
    have SL := hide (ssB_len (nsW key non) ex T)
    have LS := fun W (n : Below w.heap.size w W) gt at' ct (h : Rd W gt at' .u8 T) (p : at' = none → ct = 0) => hide (l8Sum_any W g a c key (hr.up n) hb hc g' a' c' non (hr'.up n) hb' hc' h1 ge ae ce ex (he.up n) eb en gt at' ct T h XB.out p HS.out)
    clear RS h1 XT XB XL hs
    generalize ssB (nsW key non) ex T = sm at *
    go_enter Try.func23, Try.ntmps23
    go_wp2_with fail
    refine FT.mono ?_
    rintro e w1 ⟨rfl, h⟩
    have h := h.symm
    subst h
    go_wp2_with fail
    refine XS.out.mono ?_
    rintro e w2 ⟨⟨v2, rfl, R2⟩, N2⟩
    obtain ⟨a3, c3, g3, rfl, o3, p3, q3, r3⟩ := R2.own
    have LS := LS w2 N2 g3 a3 c3 o3.rd p3
    clear XS FT
    go_wp2_with fail
    refine LS.out.mono ?_
    rintro e w4 ⟨x, y, z, rfl, R4, p4, n4⟩
    have N4 := nxt N2 n4
    obtain ⟨v5, w5, hap, o5, n5⟩ := append_any (P := Try.prog) w4 22 i0 Try.underlying22 hi hz0 hz1 hz2 w.heap.size w.heap.size _ T (R2.up n4) z x y sm R4 p4 (by have := HS.out; have := SL.out; omega) (Nat.le_refl _) N4.size
    rw [SL.out] at hap
    have N5 := N4.trans n5
    clear LS R2 o3 n4 n5 N4
    go_wp2_with (at_builtin; refine Lib.wpList_append_run _ rfl _ _ 22 22 rfl _ _ rfl rfl _ _ hap ?_)
    go_ret
    exact ⟨⟨_, rfl, o5⟩, N5⟩
  · have h1' : fitK key non = false := by simpa using h1
    rw [fit0' h1'] at FT
    have RS : Hid (seA key non ex data = []) := by show _ = _; unfold seA; rw [if_neg h1]
    rw [RS.out]
    clear h1 h1' RS
    go_enter Try.func23, Try.ntmps23
    go_wp2_with fail
    refine FT.mono ?_
    rintro e w1 ⟨rfl, h⟩
    have h := h.symm
    subst h
    go_wp2
    go_ret
    exact ⟨⟨_, rfl, RowB.lit0 w⟩, (Below.refl _ _).alloc (Nat.le_refl _) _⟩
end Go.Proofs.Ytcljoaknaegpmaa

/-
  The model's Open (written by gens/pzg.py).
-/
namespace Go.Proofs.Ytcljoaknaegpmaa
open Go Go.RowKit

theorem opT_opS (sd : List Int) : opT sd ++ opS sd = sd := List.take_append_drop _ _
theorem seal_back {key non ex sd : List Int} (hk : fitK key non = true) (db : Byt sd) : decide (seA key non ex (xt key non (opT sd)) = sd) = decide (ssB (nsW key non) ex (opT sd) = opS sd) := by
  have h : seA key non ex (xt key non (opT sd)) = opT sd ++ ssB (nsW key non) ex (opT sd) := by
    unfold seA
    rw [if_pos hk, xt_xt key non (show Byt (opT sd) from byt_take db _)]
  rw [h]
  by_cases e : ssB (nsW key non) ex (opT sd) = opS sd
  · rw [decide_eq_true e, e, opT_opS]; simp
  · rw [decide_eq_false e]
    refine decide_eq_false fun k => e ?_
    have k2 : opT sd ++ ssB (nsW key non) ex (opT sd) = opT sd ++ opS sd := k.trans (opT_opS sd).symm
    exact List.append_cancel_left k2
set_option maxRecDepth 100000 in
set_option maxHeartbeats 16000000 in
theorem specOpen_any (w : World) (g : Nat) (a : Option Addr) (c : Nat) (key : List Int) (hr : Rd w g a .u8 key) (hb : Byt key) (hc : key.length ≤ c) (g' : Nat) (a' : Option Addr) (c' : Nat) (non : List Int) (hr' : Rd w g' a' .u8 non) (hb' : Byt non) (hc' : non.length ≤ c')
    (ge : Nat) (ae : Option Addr) (ce : Nat) (ex : List Int) (he : Rd w ge ae .u8 ex) (eb : Byt ex) (en : ae = none → ce = 0)
    (g2 : Nat) (a2 : Option Addr) (c2 : Nat) (sd : List Int) (hr2 : Rd w g2 a2 .u8 sd) (db : Byt sd) (dc : sd.length ≤ c2) (hs : ex.length + sd.length ≤ 4000000) :
    Calls Try.prog 29 #[.slice a key.length c, .slice a' non.length c', .slice ae ex.length ce, .slice a2 sd.length c2] w fun e w' => NewO w.heap.size w' e (opB key non ex sd) (opL key non ex sd) ∧ Below w.heap.size w w' := by
  have n0 : Below w.heap.size w (w.alloc (.cells #[.bool false, .slice none 0 0] 45)) := (Below.refl _ _).alloc (Nat.le_refl _) _
  have H0 : (w.alloc (.cells #[.bool false, .slice none 0 0] 45)).heap[w.heap.size]? = some (.cells #[.bool false, .slice none 0 0] 45 (0, 0)) := heap_alloc_last w _
  have FT := fun W => hide (fits_any W a a' c c' key non 0)
  by_cases h1 : fitK key non = true
  · simp only [fit0 h1] at FT
    by_cases h16 : 16 ≤ sd.length
    · have OB : Hid (opB key non ex sd = decide (ssB (nsW key non) ex (opT sd) = opS sd)) := by show _ = _; unfold opB; rw [h1, decide_eq_true h16]; rfl
      have OLt : Hid (opL key non ex sd = if decide (ssB (nsW key non) ex (opT sd) = opS sd) = true then xt key non (opT sd) else []) := by show _ = _; unfold opL; rw [OB.out]
      rw [OLt.out, OB.out, ← seal_back h1 db]
      have TL : Hid ((opT sd).length = sd.length - 16) := by show _ = _; unfold opT; rw [List.length_take]; omega
      have RT : Rd w g2 a2 .u8 (opT sd) := hr2.take _
      have TB : Byt (opT sd) := byt_take db _
      have XS := fun W (n : Below w.heap.size w W) => hide (specXorR_core W g a c key (hr.up n) hb hc 1 (by omega) (by omega) g' a' c' non (hr'.up n) hb' hc' g2 a2 c2 (opT sd) (RT.up n) (by rw [TL.out]; omega) (fit1 h1) (by rw [TL.out]; omega))
      have XT : Hid (fill (sxF key 1 non (opT sd)) (opT sd).length = xt key non (opT sd)) := (sx_fill key 1 non (opT sd)).symm
      simp only [XT.out] at XS
      simp only [TL.out] at XS
      have XB := hide (xt_byt key non TB)
      have XL : Hid ((xt key non (opT sd)).length = sd.length - 16) := by show _ = _; rw [xt_len]; exact TL.out
      generalize xt key non (opT sd) = T at *
      have SE := fun W (n : Below w.heap.size w W) g3 a3 c3 (h : Rd W g3 a3 .u8 T) => hide (specSeal_any W g a c key (hr.up n) hb hc g' a' c' non (hr'.up n) hb' hc' ge ae ce ex (he.up n) eb en g3 a3 c3 T h XB.out (by rw [XL.out]; omega))
      have MB := hide (seA_byt (key := key) (non := non) (ex := ex) XB.out)
      have DB := hide db
      generalize seA key non ex T = M at *
      obtain ⟨ob, hob⟩ : ∃ b, b = decide (M = sd) := ⟨_, rfl⟩
      rw [← hob]
      obtain ⟨ol, hol⟩ : ∃ l, l = if ob = true then T else [] := ⟨_, rfl⟩
      rw [← hol]
      have HOB := hide hob
      have HOL := hide hol
      have n16 : ¬ (sd.length : Int) < 16 := by omega
      have m16 : (sd.length : Int) - 16 = ((sd.length - 16 : Nat) : Int) := by omega
      have mle : ((sd.length - 16 : Nat) : Int) ≤ (c2 : Int) := by omega
      have big : (sd.length : Int) ≤ 4000000 := by omega
      have HR2 := hide hr2
      clear hob hol OB OLt XT TB RT hr2 db dc hs h1 XB XL h16
      generalize sd.length - 16 = m at *
      go_enter Try.func29, Try.ntmps29
      go_upto_region 1 with fail
      generalize w.alloc (.cells #[.bool false, .slice none 0 0] 45) = w1 at *
      go_wp2_with fail
      refine (FT w1).out.mono ?_
      rintro e w2 ⟨rfl, h⟩
      have h := h.symm
      subst h
      go_wp2_with fail
      refine (XS w1 n0).out.mono ?_
      rintro e w3 ⟨⟨v3, rfl, R3⟩, n3⟩
      obtain ⟨a3, c3, g3, rfl, o3, p3, q3, r3⟩ := R3.own
      have l1 := (Array.getElem?_eq_some_iff.1 H0).1
      have H3 := (n3.block w.heap.size l1).trans H0
      have N3 := nxt n0 n3
      have SE3 := SE w3 N3 g3 a3 c3 o3.rd
      have s0 := n0.size
      clear FT XS R3 n3 H0 SE
      go_wp2_with fail
      refine SE3.out.mono ?_
      rintro e w4 ⟨⟨v4, rfl, R4⟩, n4⟩
      obtain ⟨a4, c4, g4, rfl, o4, -, -, -⟩ := R4.own
      have l3 := (Array.getElem?_eq_some_iff.1 H3).1
      have H4 := (n4.block w.heap.size l3).trans H3
      have N4 := nxt N3 n4
      have o3' := o3.up n4
      have SA := hide (l1Same_any w4 g4 g2 a4 a2 c4 c2 M sd o4.rd (HR2.out.up N4) MB.out DB.out)
      rw [← HOB.out] at SA
      clear SE3 R4 n4 H3 o3 o4 HOB HR2 MB DB
      go_wp2_with fail
      refine SA.out.mono ?_
      rintro e w5 ⟨rfl, h⟩
      have h := h.symm
      subst h
      obtain ⟨c80, c81, f80, f81⟩ := blk_two H4
      clear SA H4
      cases ob with
      | true =>
        have EL : Hid (ol = T) := by show _ = _; rw [HOL.out, if_pos rfl]
        have O1 := (Only.setCell w4 w.heap.size 0 (.bool true)).trans (Only.setCell _ w.heap.size 1 (.slice a3 T.length c3))
        have o10 := o3'.only O1 (fun _ => by omega)
        have N10 := N4.trans (O1.below (Nat.le_refl _))
        clear HOL O1
        go_wp2
        exact bodyPost_ret (v := .agg #[.bool true, .slice a3 T.length c3]) (by simp [results, Try.results29, go_sem, c80, c81]) rfl ⟨by rw [EL.out]; exact ⟨a3, c3, g3, rfl, o10, p3, q3, by omega⟩, N10⟩
      | false =>
        have EL : Hid (ol = []) := by show _ = _; rw [HOL.out, if_neg (by decide)]
        have O1 := (Only.setCell w4 w.heap.size 0 (.bool false)).trans (Only.setCell _ w.heap.size 1 (.slice none 0 0))
        have N10 := N4.trans (O1.below (Nat.le_refl _))
        clear HOL O1
        go_wp2
        exact bodyPost_ret (v := .agg #[.bool false, .slice none 0 0]) (by simp [results, Try.results29, go_sem, c80, c81]) rfl ⟨by rw [EL.out]; exact newO_bad _ _, N10⟩
    · have OB : Hid (opB key non ex sd = false) := by show _ = _; unfold opB; rw [decide_eq_false h16]; simp
      have OLt : Hid (opL key non ex sd = []) := by show _ = _; unfold opL; rw [if_neg (by rw [OB.out]; decide)]
      rw [OLt.out, OB.out]
      have lt : (sd.length : Int) < 16 := by omega
      clear OB OLt
      go_enter Try.func29, Try.ntmps29
      go_upto_region 1 with fail
      generalize w.alloc (.cells #[.bool false, .slice none 0 0] 45) = w1 at *
      go_wp2_with fail
      refine (FT w1).out.mono ?_
      rintro e w2 ⟨rfl, h⟩
      have h := h.symm
      subst h
      obtain ⟨c10, c11, f10, f11⟩ := blk_two H0
      have O1 := (Only.setCell w1 w.heap.size 0 (.bool false)).trans (Only.setCell _ w.heap.size 1 (.slice none 0 0))
      have N10 := n0.trans (O1.below (Nat.le_refl _))
      clear FT O1
      go_wp2
      exact bodyPost_ret (v := .agg #[.bool false, .slice none 0 0]) (by simp [results, Try.results29, go_sem, c10, c11]) rfl ⟨newO_bad _ _, N10⟩
  · have h1' : fitK key non = false := by simpa using h1
    simp only [fit0' h1'] at FT
    have OB : Hid (opB key non ex sd = false) := by show _ = _; unfold opB; rw [h1']; rfl
    have OLt : Hid (opL key non ex sd = []) := by show _ = _; unfold opL; rw [if_neg (by rw [OB.out]; decide)]
    rw [OLt.out, OB.out]
    clear OB OLt h1 h1'
    go_enter Try.func29, Try.ntmps29
    go_upto_region 1 with fail
    generalize w.alloc (.cells #[.bool false, .slice none 0 0] 45) = w1 at *
    go_wp2_with fail
    refine (FT w1).out.mono ?_
    rintro e w2 ⟨rfl, h⟩
    have h := h.symm
    subst h
    obtain ⟨c10, c11, f10, f11⟩ := blk_two H0
    have O1 := (Only.setCell w1 w.heap.size 0 (.bool false)).trans (Only.setCell _ w.heap.size 1 (.slice none 0 0))
    have N10 := n0.trans (O1.below (Nat.le_refl _))
    clear FT O1
    go_wp2
    exact bodyPost_ret (v := .agg #[.bool false, .slice none 0 0]) (by simp [results, Try.results29, go_sem, c10, c11]) rfl ⟨newO_bad _ _, N10⟩
end Go.Proofs.Ytcljoaknaegpmaa

/-
  Items as bytes: numbers alone.
-/
namespace Go.Proofs.Ytcljoaknaegpmaa

/-- The first byte of a length, and its one form. -/
def lenS (n : Nat) : Nat := if n < 128 then n else if n < 256 then 129 else 130
def lenL (n : Nat) : List Int := if n < 128 then [(n : Int)] else if n < 256 then [129, (n : Int)] else [130, (n : Int) / 256, (n : Int) % 256]
theorem lenL_len (n : Nat) : 1 ≤ (lenL n).length ∧ (lenL n).length ≤ 3 := by unfold lenL; split; · simp
                                                                             split <;> simp
theorem lenL_byt (n : Nat) (h : n ≤ 65535) : Byt (lenL n) := by
  intro i
  unfold lenL
  split
  · match i with
    | 0 => simp; omega
    | i + 1 => simp
  split
  · match i with
    | 0 => simp
    | 1 => simp; omega
    | i + 2 => simp
  · match i with
    | 0 => simp
    | 1 => simp; omega
    | 2 => simp; omega
    | i + 3 => simp
/-- What EncodeItem answers. -/
def itB (tag : Int) (n : Nat) : Bool := decide (1 ≤ tag) && (decide (tag ≤ 255) && decide (n ≤ 65535))
def itL (tag : Int) (body : List Int) : List Int := if itB tag body.length = true then tag :: (lenL body.length ++ body) else []
theorem itL_len (tag : Int) (body : List Int) : (itL tag body).length ≤ body.length + 4 := by
  unfold itL
  split
  · have := lenL_len body.length
    simp
    omega
  · simp
end Go.Proofs.Ytcljoaknaegpmaa

/-
  The program's EncodeItem.
-/
namespace Go.Proofs.Ytcljoaknaegpmaa
open Go Go.RowKit

/-- One byte appended. -/
theorem append_one {P : Program} (w : World) (i : TypeInfo) (ht : P.underlying 22 = some (.slice 5)) (hi : P.info? 5 = some i) (hz : i.zero = some (.int .u8 0)) (hsize : i.size = 1) (hby : i.bytes = 1)
    (B : Nat) (v : Value) (xs : List Int) (hown : RowB w B v xs) (x : Int) (hl : xs.length ≤ 1048576) (hB : B ≤ w.heap.size) :
    ∃ v' w', (Builtin.append_ #[22, 22] 22 #[v, .slice (some ⟨w.heap.size, 0, none⟩) 1 1]).run P (w.alloc (.cells #[.int .u8 x] 5)) = .ok v' w' ∧ RowB w' B v' (xs ++ [x]) ∧ Below B w w' := by
  have na : Below w.heap.size w (w.alloc (.cells #[.int .u8 x] 5)) := (Below.refl _ _).alloc (Nat.le_refl _) _
  have B1 : Blk (w.alloc (.cells #[.int .u8 x] 5)) w.heap.size .u8 [x] := blk_lit1 w .u8 5 x
  obtain ⟨v', w2, hap, o2, n2⟩ := append_any (P := P) (w.alloc (.cells #[.int .u8 x] 5)) 22 i ht hi hz hsize hby B B _ _ (hown.up na) _ _ 1 [x] B1.own0.rd (by simp) (by simp; omega) (Nat.le_refl _) (by have := na.size; omega)
  exact ⟨v', w2, hap, o2, (na.mono hB).trans n2⟩

theorem itB_yes {tag : Int} {n : Nat} (h : itB tag n = true) : 1 ≤ tag ∧ tag ≤ 255 ∧ n ≤ 65535 := by
  unfold itB at h
  simpa using h

theorem itL_short (tag : Int) (body : List Int) : (itL tag body).length ≤ 65540 := by
  unfold itL
  split
  · rename_i h
    have := itB_yes h
    have := lenL_len body.length
    simp
    omega
  · simp
end Go.Proofs.Ytcljoaknaegpmaa

/-
  Items read from bytes: numbers alone.
-/
namespace Go.Proofs.Ytcljoaknaegpmaa

/-- A length at place i: how many bytes tell it, and what it is. -/
def lnA (xs : List Int) (i : Nat) : Option (Nat × Nat) :=
  if i < xs.length then
    if xs.getD i 0 < 128 then some (1, (xs.getD i 0).toNat)
    else if xs.getD i 0 = 129 then (if i + 1 < xs.length ∧ 128 ≤ xs.getD (i + 1) 0 then some (2, (xs.getD (i + 1) 0).toNat) else none)
    else if xs.getD i 0 = 130 then (if i + 2 < xs.length ∧ 256 ≤ 256 * xs.getD (i + 1) 0 + xs.getD (i + 2) 0 then some (3, (256 * xs.getD (i + 1) 0 + xs.getD (i + 2) 0).toNat) else none)
    else none
  else none
/-- An item at place i: its tag, where its body begins, and how long it is. -/
def itA (xs : List Int) (i : Nat) : Option (Int × Nat × Nat) :=
  if i < xs.length ∧ xs.getD i 0 ≠ 0 then
    match lnA xs (i + 1) with
    | some (m, n) => if i + 1 + m + n ≤ xs.length then some (xs.getD i 0, i + 1 + m, n) else none
    | none => none
  else none
theorem lnA_bd {xs : List Int} (hb : Byt xs) {i m n : Nat} (h : lnA xs i = some (m, n)) : 1 ≤ m ∧ m ≤ 3 ∧ n ≤ 65535 ∧ i + m ≤ xs.length := by
  unfold lnA at h
  have b0 := hb i
  have b1 := hb (i + 1)
  have b2 := hb (i + 2)
  split at h
  · split at h
    · simp only [Option.some.injEq, Prod.mk.injEq] at h; omega
    split at h
    · split at h
      · simp only [Option.some.injEq, Prod.mk.injEq] at h; omega
      · cases h
    split at h
    · split at h
      · simp only [Option.some.injEq, Prod.mk.injEq] at h; omega
      · cases h
    · cases h
  · cases h
theorem itA_bd {xs : List Int} (hb : Byt xs) {i s n : Nat} {t : Int} (h : itA xs i = some (t, s, n)) : t = xs.getD i 0 ∧ 1 ≤ t ∧ t ≤ 255 ∧ i + 2 ≤ s ∧ s ≤ i + 4 ∧ n ≤ 65535 ∧ s + n ≤ xs.length := by
  unfold itA at h
  have b0 := hb i
  split at h
  · rename_i h0
    cases hl : lnA xs (i + 1) with
    | none => rw [hl] at h; cases h
    | some p =>
      obtain ⟨m, k⟩ := p
      rw [hl] at h
      have := lnA_bd hb hl
      dsimp only at h
      split at h
      · simp only [Option.some.injEq, Prod.mk.injEq] at h; omega
      · cases h
  · cases h
/-- What DecodeItem answers. -/
def diT (o : Option (Int × Nat × Nat)) : Bool := o.isSome
def dtT (o : Option (Int × Nat × Nat)) : Int := match o with | some (t, _, _) => t | none => 0
def dbT (xs : List Int) (o : Option (Int × Nat × Nat)) : List Int := match o with | some (_, s, n) => (xs.drop s).take n | none => []
def dnT (o : Option (Int × Nat × Nat)) : Int := match o with | some (_, s, n) => ((s + n : Nat) : Int) | none => 0
/-- .. at any place. -/
def itZ (xs : List Int) (i : Int) : Option (Int × Nat × Nat) := if 0 ≤ i then itA xs i.toNat else none
theorem itZ_out {xs : List Int} {i : Int} (h : ¬ (0 ≤ i ∧ i < (xs.length : Int))) : itZ xs i = none := by
  unfold itZ
  split
  · unfold itA; rw [if_neg (by omega)]
  · rfl
theorem lnA_of {xs : List Int} {i n : Nat} (hl : i + (lenL n).length ≤ xs.length) (h : ∀ j, j < (lenL n).length → xs.getD (i + j) 0 = (lenL n).getD j 0) (hn : n ≤ 65535) : lnA xs i = some ((lenL n).length, n) := by
  unfold lnA
  unfold lenL at hl h ⊢
  split at hl
  · rename_i c
    rw [if_pos c] at h ⊢
    have h0 : xs.getD i 0 = (n : Int) := h 0 (by simp)
    simp at hl
    rw [if_pos (by omega), h0, if_pos (by omega)]
    simp
  · rename_i c
    rw [if_neg c] at h ⊢
    split at hl
    · rename_i c2
      rw [if_pos c2] at h ⊢
      have h0 : xs.getD i 0 = 129 := h 0 (by simp)
      have h1 : xs.getD (i + 1) 0 = (n : Int) := h 1 (by simp)
      simp at hl
      rw [if_pos (by omega), h0, if_neg (by omega), if_pos rfl, h1, if_pos (by omega)]
      simp
    · rename_i c2
      rw [if_neg c2] at h ⊢
      have h0 : xs.getD i 0 = 130 := h 0 (by simp)
      have h1 : xs.getD (i + 1) 0 = (n : Int) / 256 := h 1 (by simp)
      have h2 : xs.getD (i + 2) 0 = (n : Int) % 256 := h 2 (by simp)
      simp at hl
      rw [if_pos (by omega), h0, if_neg (by omega), if_neg (by decide), if_pos rfl, h1, h2, if_pos (by omega)]
      simp
      omega
/-- The form of a length that is read is its one form. -/
theorem lnA_form {xs : List Int} (hb : Byt xs) {i m n : Nat} (h : lnA xs i = some (m, n)) : (lenL n).length = m ∧ ∀ j, j < m → xs.getD (i + j) 0 = (lenL n).getD j 0 := by
  have b0 := hb i
  have b1 := hb (i + 1)
  have b2 := hb (i + 2)
  unfold lnA at h
  split at h
  · split at h
    · simp only [Option.some.injEq, Prod.mk.injEq] at h
      obtain ⟨rfl, rfl⟩ := h
      unfold lenL
      rw [if_pos (by omega)]
      refine ⟨rfl, fun j hj => ?_⟩
      obtain rfl : j = 0 := by omega
      show xs.getD i 0 = ((xs.getD i 0).toNat : Int)
      omega
    split at h
    · split at h
      · simp only [Option.some.injEq, Prod.mk.injEq] at h
        obtain ⟨rfl, rfl⟩ := h
        unfold lenL
        rw [if_neg (by omega), if_pos (by omega)]
        refine ⟨rfl, fun j hj => ?_⟩
        obtain rfl | rfl : j = 0 ∨ j = 1 := by omega
        · assumption
        · show xs.getD (i + 1) 0 = ((xs.getD (i + 1) 0).toNat : Int)
          omega
      · cases h
    split at h
    · split at h
      · simp only [Option.some.injEq, Prod.mk.injEq] at h
        obtain ⟨rfl, rfl⟩ := h
        unfold lenL
        rw [if_neg (by omega), if_neg (by omega)]
        refine ⟨rfl, fun j hj => ?_⟩
        obtain rfl | rfl | rfl : j = 0 ∨ j = 1 ∨ j = 2 := by omega
        · assumption
        · show xs.getD (i + 1) 0 = ((256 * xs.getD (i + 1) 0 + xs.getD (i + 2) 0).toNat : Int) / 256
          omega
        · show xs.getD (i + 2) 0 = ((256 * xs.getD (i + 1) 0 + xs.getD (i + 2) 0).toNat : Int) % 256
          omega
      · cases h
    · cases h
  · cases h
theorem lnA_out {xs : List Int} {i : Nat} (h : xs.length ≤ i) : lnA xs i = none := if_neg (by omega)
theorem lnA_1 {xs : List Int} {i n : Nat} (h : i < xs.length) (hx : xs.getD i 0 = (n : Int)) (hn : n < 128) : lnA xs i = some (1, n) := by
  unfold lnA
  rw [if_pos h, if_pos (by omega), hx]
  simp
theorem lnA_2y {xs : List Int} {i n : Nat} (h : i + 1 < xs.length) (hx : xs.getD i 0 = 129) (hx1 : xs.getD (i + 1) 0 = (n : Int)) (hn : 128 ≤ n) : lnA xs i = some (2, n) := by
  unfold lnA
  rw [if_pos (by omega), if_neg (by omega), if_pos hx, if_pos ⟨h, by omega⟩, hx1]
  simp
theorem lnA_2n {xs : List Int} {i : Nat} (hx : xs.getD i 0 = 129) (hn : xs.length ≤ i + 1 ∨ xs.getD (i + 1) 0 < 128) : lnA xs i = none := by
  unfold lnA
  by_cases c : i < xs.length
  · rw [if_pos c, if_neg (show ¬ xs.getD i 0 < 128 by omega), if_pos hx, if_neg (by omega)]
  · rw [if_neg c]
theorem lnA_3y {xs : List Int} {i n : Nat} (h : i + 2 < xs.length) (hx : xs.getD i 0 = 130) (hx1 : 256 * xs.getD (i + 1) 0 + xs.getD (i + 2) 0 = (n : Int)) (hn : 256 ≤ n) : lnA xs i = some (3, n) := by
  unfold lnA
  rw [if_pos (by omega), if_neg (by omega), if_neg (by omega), if_pos hx, if_pos ⟨h, by omega⟩, hx1]
  simp
theorem lnA_3n {xs : List Int} {i : Nat} (hx : xs.getD i 0 = 130) (hn : xs.length ≤ i + 2 ∨ 256 * xs.getD (i + 1) 0 + xs.getD (i + 2) 0 < 256) : lnA xs i = none := by
  unfold lnA
  by_cases c : i < xs.length
  · rw [if_pos c, if_neg (show ¬ xs.getD i 0 < 128 by omega), if_neg (show ¬ xs.getD i 0 = 129 by omega), if_pos hx, if_neg (by omega)]
  · rw [if_neg c]
theorem lnA_no {xs : List Int} {i : Nat} (hx : 128 ≤ xs.getD i 0) (h1 : xs.getD i 0 ≠ 129) (h2 : xs.getD i 0 ≠ 130) : lnA xs i = none := by
  unfold lnA
  by_cases c : i < xs.length
  · rw [if_pos c, if_neg (show ¬ xs.getD i 0 < 128 by omega), if_neg h1, if_neg h2]
  · rw [if_neg c]
end Go.Proofs.Ytcljoaknaegpmaa

/-
  The cursor's length.
-/
namespace Go.Proofs.Ytcljoaknaegpmaa
open Go Go.RowKit

/-- take, whatever the place. -/
theorem take_any (w : World) (p g : Nat) (a : Option Addr) (c : Nat) (xs : List Int) (i : Nat) (hC : Cur w p (.slice a xs.length c) i) (hr : Rd w g a .u8 xs) (hn : xs.length ≤ 9223372036854775807) :
    Calls Try.prog 93 #[.pointer (some ⟨p, 0, none⟩)] w fun e w' => ((i < xs.length ∧ e = .returned (.int .u8 (xs.getD i 0)) ∧ Cur w' p (.slice a xs.length c) ((i + 1 : Nat) : Int)) ∨ (xs.length ≤ i ∧ Pan e)) ∧ Only p w w' := by
  by_cases h : i < xs.length
  · exact (take_ok w p g a c xs i hC hr h hn).mono fun e w' ⟨h1, h2, h3⟩ => ⟨.inl ⟨h, h1, h2⟩, h3⟩
  · exact (take_bad w p a _ c _ hC (by omega)).mono fun e w' ⟨h1, h2⟩ => ⟨.inr ⟨by omega, h1⟩, h2⟩
theorem Cur.only {w w' : World} {p q : Nat} {l : Value} {i : Int} (h : Cur w p l i) (n : Only q w w') (hne : p ≠ q) : Cur w' p l i := h.of_block (n.block p hne)
theorem Rd.only {w w' : World} {g q : Nat} {a : Option Addr} {k : IntKind} {xs : List Int} (h : Rd w g a k xs) (n : Only q w w') (hne : 0 < xs.length → g ≠ q) : Rd w' g a k xs := by
  by_cases h0 : 0 < xs.length
  · exact h.of_block (n.block g (hne h0))
  · obtain rfl : xs = [] := List.eq_nil_of_length_eq_zero (by omega)
    exact Rd.nil _ _ _ _

end Go.Proofs.Ytcljoaknaegpmaa

/-
  The cursor's takeList.
-/
namespace Go.Proofs.Ytcljoaknaegpmaa
open Go Go.RowKit

/-- Of the blocks that were there none but p has turned. -/
structure Kp (p : Nat) (w w' : World) : Prop where
  os : w'.os = w.os
  tape : w'.tape = w.tape
  output : w'.output = w.output
  size : w.heap.size ≤ w'.heap.size
  block : ∀ k, k < w.heap.size → k ≠ p → w'.heap[k]? = w.heap[k]?
theorem Kp.refl (p : Nat) (w : World) : Kp p w w := ⟨rfl, rfl, rfl, Nat.le_refl _, fun _ _ _ => rfl⟩
theorem Kp.trans {p : Nat} {a b c : World} (h : Kp p a b) (k : Kp p b c) : Kp p a c :=
  ⟨k.os.trans h.os, k.tape.trans h.tape, k.output.trans h.output, Nat.le_trans h.size k.size, fun i hi hp => (k.block i (by have := h.size; omega) hp).trans (h.block i hi hp)⟩
theorem Only.kp {p : Nat} {w w' : World} (h : Only p w w') : Kp p w w' := ⟨h.os, h.tape, h.output, Nat.le_of_eq h.size.symm, fun k _ hp => h.block k hp⟩
theorem below_kp {p : Nat} {w w' : World} (h : Below w.heap.size w w') : Kp p w w' := ⟨h.os, h.tape, h.output, h.size, fun k hk _ => h.block k hk⟩
theorem Kp.below {p B : Nat} {w w' : World} (h : Kp p w w') (hB : B ≤ p) (hs : B ≤ w.heap.size) : Below B w w' :=
  ⟨h.os, h.tape, h.output, h.size, fun k hk => h.block k (by omega) (by omega)⟩
theorem Rd.kp {w w' : World} {g q : Nat} {a : Option Addr} {k : IntKind} {xs : List Int} (h : Rd w g a k xs) (n : Kp q w w') (hne : 0 < xs.length → g ≠ q) : Rd w' g a k xs := by
  by_cases h0 : 0 < xs.length
  · exact h.of_block (n.block g (h.lt h0) (hne h0))
  · obtain rfl : xs = [] := List.eq_nil_of_length_eq_zero (by omega)
    exact Rd.nil _ _ _ _
theorem Tl.kp {w w' : World} {p q : Nat} {x y : Value} (h : Tl w p x y) (n : Kp q w w') (hne : p ≠ q) : Tl w' p x y := h.of_block (n.block p h.lt hne)
/-- A copy as one step of a drawn region. -/
theorem step_copy_ex {P : Program} {ops : Array Oper} {o : Oper} {a : Act} {w : World} {K : Act → World → Prop} {Q : Exit → Act → World → Prop} {E : Prop} (hg : o.guard = none) (s x : Operand) (t tn : TypeId)
    (ho : o.op = .call { callee := .builtin .copy, args := #[s, x], argTypes := #[t, tn] }) (vs vx : Value) (hs : a.eval s = vs) (hx : a.eval x = vx) (v' : Value) (w' : World)
    (H : (Builtin.copy_ #[t, tn] o.type #[vs, vx]).run P w = .ok v' w') (hK : K (a.put o.dst v') w') :
    if Region.wanted o (yielded ops a.tmps) = true then Oper.wp P o a w K Q else E := by
  have hw : Region.wanted o (yielded ops a.tmps) = true := by simp [Region.wanted, hg]
  rw [if_pos hw]
  unfold Oper.wp execOp
  simp only [ho, resolve, invoke, builtin, Sem.run_bind, Sem.run_pure, Result.andThen_ok, List.map_toArray, List.map_cons, List.map_nil, hs, hx, H]
  exact hK
theorem rowU8' : (Try.prog.info? 5).map (·.size) = some 1 := by kernel_rfl

/-- As much as there is room for is copied. -/
theorem copy_cut {P : Program} (w : World) (ty rt e : TypeId) (hu : P.underlying ty = some (.slice e)) (hsz : (P.info? e).map (·.size) = some 1) {g : Nat} {k : IntKind} {zs : List Int} (hB : Blk w g k zs)
    (gs : Nat) (sp : Option Addr) (ys : List Int) (hr : Rd w gs sp k ys) (hl : zs.length ≤ ys.length) (dc sc : Nat) :
    ∃ w2, (Builtin.copy_ #[ty, ty] rt #[.slice (some ⟨g, 0, none⟩) zs.length dc, .slice sp ys.length sc]).run P w = .ok (goInt zs.length) w2 ∧ Blk w2 g k (ys.take zs.length) ∧ Only g w w2 := by
  by_cases h0 : 0 < zs.length
  · obtain ⟨off, rfl, hc⟩ := hr (by omega)
    obtain ⟨t, hB⟩ := hB
    have hlt : (ys.take zs.length).length = zs.length := by rw [List.length_take]; omega
    have hrun := run_copy_row (P := P) w ty ty rt e g 0 zs.length dc ⟨gs, off, none⟩ ys.length sc _ t ((ys.take zs.length).map (Value.int k)) hu hsz hB (by rw [List.length_map, hlt]; exact (Nat.min_eq_right hl).symm)
      (fun j v hj => by
        have hjl : j < zs.length := by
          have := (List.getElem?_eq_some_iff.1 hj).1
          rw [List.length_map, hlt] at this
          exact this
        rw [add_mid, hc j (by omega)]
        rw [List.getElem?_map, List.getElem?_take, if_pos hjl] at hj
        rw [List.getD_eq_getElem?_getD]
        cases hy : ys[j]? with
        | none => rw [hy] at hj; simp at hj
        | some y => rw [hy] at hj; simpa using hj) (by rw [List.length_map, hlt]; simp) (oneCells _ _)
    rw [List.length_map, hlt] at hrun
    refine ⟨_, hrun, ⟨t, ?_⟩, ⟨rfl, rfl, rfl, by simp, fun i hi => setRow_other w g i _ hi⟩⟩
    rw [setRow_heap w g _ _ t _ hB]
    simp
  · obtain rfl : zs = [] := List.eq_nil_of_length_eq_zero (by omega)
    exact ⟨w, run_copy_none (P := P) w ty ty rt e _ _ _ _ _ _ hu hsz (by simp), by simpa using hB, Only.refl _ _⟩

set_option maxHeartbeats 2000000 in
theorem takeList_mid (w : World) (p g : Nat) (a : Option Addr) (c : Nat) (xs : List Int) (i n : Nat) (hC : Cur w p (.slice a xs.length c) i) (hr : Rd w g a .u8 xs) (hc : xs.length ≤ c) (hn : xs.length ≤ 1048576) (hi : i < xs.length) (hin : i + n ≤ xs.length) :
    Calls Try.prog 68 #[.pointer (some ⟨p, 0, none⟩), .int .i64 (n : Int)] w fun e w' => e = .returned (.slice (some ⟨w.heap.size, 0, none⟩) n n) ∧ Blk w' w.heap.size .u8 ((xs.drop i).take n) ∧ Cur w' p (.slice a xs.length c) ((i + n : Nat) : Int) ∧ Kp p w w' := by
  obtain ⟨i0, hi0, hz0, hz1, hz2⟩ := info_parts Try.info5
  have c0 := hC.c0
  have c1 := hC.c1
  have pl := hC.lt
  have t1 : decide ((xs.length : Int) - (i : Int) < (n : Int)) = false := by simp; omega
  have q0 : (n : Int) ≤ 1048576 := by omega
  go_enter Try.func68, Try.ntmps68
  go_wp2
  go_quiet (fail)
  go_upto_region 4 with (at_make; refine wpList_make_full _ rfl _ _ 22 rfl w.heap.size 5 i0 (.int .u8 0) 1 Try.underlying22 hi0 hz0 hz1 .i64 .i64 _ _ n rfl rfl rfl rfl (by rw [hz2]; omega) (by unfold maxLen; omega) (Nat.le_refl _) ?_; intro w3 hown hgrow)
  have B3 := Blk.of_made hown
  have n3 : Below w.heap.size w w3 := (below_drewN (Below.refl _ _) nq).grown hgrow (Nat.le_refl _) (by simp)
  clear hown hgrow
  have z3 := n3.size
  have B3 : Blk w3 w.heap.size .u8 (List.replicate n 0) := B3
  have l3 := B3.lt
  have C3 := hC.up n3
  have R3 := hr.up n3
  obtain ⟨off, rfl, RR⟩ := R3.dropA i hi
  obtain ⟨w4, hcp, B4, O4⟩ := copy_cut (P := Try.prog) w3.drew 22 3 5 Try.underlying22 rowU8' B3.drew g (some ⟨g, off + i, none⟩) (xs.drop i) (RR.of_block rfl) (by rw [List.length_replicate, List.length_drop]; omega) n (c - i)
  rw [List.length_replicate] at hcp B4
  rw [List.length_drop] at hcp
  have C4 := Cur.only (w := w3.drew) C3 O4 (by omega)
  have d0 := C3.c0
  have d1 := C3.c1
  have e0 := C4.c0
  have e1 := C4.c1
  have f1 := C4.f1
  have C5 := C4.store ((i : Int) + (n : Int))
  have N5 : Kp p w (w4.setCell ⟨p, 1, none⟩ (.int .i64 ((i : Int) + (n : Int)))) := (below_kp (n3.drew.trans (O4.below (Nat.le_refl _)))).trans (Only.setCell _ _ _ _).kp
  have B5 : Blk (w4.setCell ⟨p, 1, none⟩ (.int .i64 ((i : Int) + (n : Int)))) w.heap.size .u8 ((xs.drop i).take n) := B4.of_block ((Only.setCell w4 p 1 _).block _ (by omega))
  have ci : ¬ (c = i) := by omega
  have j1 : (i : Int) ≤ (xs.length : Int) := by omega
  have j2 : (i : Int) ≤ (c : Int) := by omega
  have WR : IntKind.i64.wrap ((i : Int) + (n : Int)) = (i : Int) + (n : Int) := by rw [wrap_i64]; omega
  generalize hm : xs.length = m at *
  have HM := hide hm
  clear hm
  go_region_with (first | (refine step_copy_ex rfl (.tmp 25) (.tmp 34) 22 22 rfl _ _ rfl rfl _ _ hcp ?_) | fail)
  all_goals
    go_wp2
    go_ret
    exact ⟨rfl, B5, by rw [show ((i + n : Nat) : Int) = (i : Int) + (n : Int) by omega, HM.out]; exact C5, N5⟩
end Go.Proofs.Ytcljoaknaegpmaa

/-
  The cursor's takeList where nothing is left.
-/
namespace Go.Proofs.Ytcljoaknaegpmaa
open Go Go.RowKit

set_option maxHeartbeats 2000000 in
theorem takeList_end (w : World) (p : Nat) (a : Option Addr) (m c : Nat) (hC : Cur w p (.slice a m c) (m : Int)) (hc0 : a = none → c = 0) (hc : m ≤ c) (hn : m ≤ 1048576) :
    Calls Try.prog 68 #[.pointer (some ⟨p, 0, none⟩), .int .i64 0] w fun e w' => e = .returned (.slice (some ⟨w.heap.size, 0, none⟩) 0 0) ∧ Blk w' w.heap.size .u8 [] ∧ Cur w' p (.slice a m c) (m : Int) ∧ Kp p w w' := by
  obtain ⟨i0, hi0, hz0, hz1, hz2⟩ := info_parts Try.info5
  have c0 := hC.c0
  have c1 := hC.c1
  have t1 : decide ((m : Int) - (m : Int) < 0) = false := by simp
  have q0 : (m : Int) ≤ 1048576 := by omega
  have j2 : (m : Int) ≤ (c : Int) := by omega
  have WR : IntKind.i64.wrap ((m : Int) + 0) = (m : Int) := by rw [wrap_i64]; omega
  have WR' : IntKind.i64.wrap (m : Int) = (m : Int) := by rw [wrap_i64]; omega
  have hcp := fun sp sc W => hide (run_copy_none (P := Try.prog) W 22 22 3 5 (some ⟨w.heap.size, 0, none⟩) sp 0 0 0 sc Try.underlying22 rowU8' (by simp))
  by_cases ha : a = none
  · subst ha
    obtain rfl := hc0 rfl
    obtain rfl : m = 0 := by omega
    go_enter Try.func68, Try.ntmps68
    go_wp2
    go_quiet (fail)
    go_upto_region 4 with (at_make; refine wpList_make_full _ rfl _ _ 22 rfl w.heap.size 5 i0 (.int .u8 0) 1 Try.underlying22 hi0 hz0 hz1 .i64 .i64 _ _ 0 rfl rfl rfl rfl (by rw [hz2]; omega) (by unfold maxLen; omega) (Nat.le_refl _) ?_; intro w3 hown hgrow)
    have B3 : Blk w3 w.heap.size .u8 [] := Blk.of_made hown
    have n3 : Below w.heap.size w w3 := (below_drewN (Below.refl _ _) nq).grown hgrow (Nat.le_refl _) (by simp)
    clear hown hgrow
    have C3 := hC.up n3
    have d0 := C3.c0
    have d1 := C3.c1
    have f1 := C3.f1
    have pl := hC.lt
    have C5 := C3.store (0)
    have N5 : Kp p w (w3.setCell ⟨p, 1, none⟩ (.int .i64 (0))) := (below_kp n3).trans (Only.setCell _ _ _ _).kp
    have B5 : Blk (w3.setCell ⟨p, 1, none⟩ (.int .i64 (0))) w.heap.size .u8 [] := B3.of_block ((Only.setCell w3 p 1 _).block _ (by omega))
    have HC := (hcp none 0 w3.drew).out
    go_region_with (first | (refine step_copy_ex rfl (.tmp 25) (.tmp 34) 22 22 rfl _ _ rfl rfl _ _ HC ?_) | fail)
    all_goals
      go_wp2
      go_ret
      exact ⟨rfl, B5, C5, ⟨N5.os, N5.tape, N5.output, N5.size, N5.block⟩⟩
  · obtain ⟨ad, rfl⟩ := Option.ne_none_iff_exists'.1 ha
    by_cases hcm : c = m
    · subst hcm
      go_enter Try.func68, Try.ntmps68
      go_wp2
      go_quiet (fail)
      go_upto_region 4 with (at_make; refine wpList_make_full _ rfl _ _ 22 rfl w.heap.size 5 i0 (.int .u8 0) 1 Try.underlying22 hi0 hz0 hz1 .i64 .i64 _ _ 0 rfl rfl rfl rfl (by rw [hz2]; omega) (by unfold maxLen; omega) (Nat.le_refl _) ?_; intro w3 hown hgrow)
      have B3 : Blk w3 w.heap.size .u8 [] := Blk.of_made hown
      have n3 : Below w.heap.size w w3 := (below_drewN (Below.refl _ _) nq).grown hgrow (Nat.le_refl _) (by simp)
      clear hown hgrow
      have C3 := hC.up n3
      have d0 := C3.c0
      have d1 := C3.c1
      have f1 := C3.f1
      have pl := hC.lt
      have C5 := C3.store ((c : Int))
      have N5 : Kp p w (w3.setCell ⟨p, 1, none⟩ (.int .i64 ((c : Int)))) := (below_kp n3).trans (Only.setCell _ _ _ _).kp
      have B5 : Blk (w3.setCell ⟨p, 1, none⟩ (.int .i64 ((c : Int)))) w.heap.size .u8 [] := B3.of_block ((Only.setCell w3 p 1 _).block _ (by omega))
      have HC := (hcp (some ad) 0 w3.drew).out
      go_region_with (first | (refine step_copy_ex rfl (.tmp 25) (.tmp 34) 22 22 rfl _ _ rfl rfl _ _ HC ?_) | fail)
      all_goals
        go_wp2
        go_ret
        exact ⟨rfl, B5, C5, ⟨N5.os, N5.tape, N5.output, N5.size, N5.block⟩⟩
    · go_enter Try.func68, Try.ntmps68
      go_wp2
      go_quiet (fail)
      go_upto_region 4 with (at_make; refine wpList_make_full _ rfl _ _ 22 rfl w.heap.size 5 i0 (.int .u8 0) 1 Try.underlying22 hi0 hz0 hz1 .i64 .i64 _ _ 0 rfl rfl rfl rfl (by rw [hz2]; omega) (by unfold maxLen; omega) (Nat.le_refl _) ?_; intro w3 hown hgrow)
      have B3 : Blk w3 w.heap.size .u8 [] := Blk.of_made hown
      have n3 : Below w.heap.size w w3 := (below_drewN (Below.refl _ _) nq).grown hgrow (Nat.le_refl _) (by simp)
      clear hown hgrow
      have C3 := hC.up n3
      have d0 := C3.c0
      have d1 := C3.c1
      have f1 := C3.f1
      have pl := hC.lt
      have C5 := C3.store ((m : Int))
      have N5 : Kp p w (w3.setCell ⟨p, 1, none⟩ (.int .i64 ((m : Int)))) := (below_kp n3).trans (Only.setCell _ _ _ _).kp
      have B5 : Blk (w3.setCell ⟨p, 1, none⟩ (.int .i64 ((m : Int)))) w.heap.size .u8 [] := B3.of_block ((Only.setCell w3 p 1 _).block _ (by omega))
      have HC := (hcp (some (ad.add m)) (c - m) w3.drew).out
      go_region_with (first | (refine step_copy_ex rfl (.tmp 25) (.tmp 34) 22 22 rfl _ _ rfl rfl _ _ HC ?_) | fail)
      all_goals
        go_wp2
        go_ret
        exact ⟨rfl, B5, C5, ⟨N5.os, N5.tape, N5.output, N5.size, N5.block⟩⟩
end Go.Proofs.Ytcljoaknaegpmaa

/-
  The cursor's takeList, whatever is left.
-/
namespace Go.Proofs.Ytcljoaknaegpmaa
open Go Go.RowKit

set_option maxRecDepth 100000 in
/-- takeList, whatever is left. -/
theorem takeList_any (w : World) (p g : Nat) (a : Option Addr) (c : Nat) (xs : List Int) (i n : Nat) (hC : Cur w p (.slice a xs.length c) i) (hr : Rd w g a .u8 xs) (hc0 : a = none → c = 0) (hc : xs.length ≤ c) (hn : xs.length ≤ 1048576) (hi : i ≤ xs.length) (hin : i + n ≤ xs.length) :
    Calls Try.prog 68 #[.pointer (some ⟨p, 0, none⟩), .int .i64 (n : Int)] w fun e w' => e = .returned (.slice (some ⟨w.heap.size, 0, none⟩) n n) ∧ Blk w' w.heap.size .u8 ((xs.drop i).take n) ∧ Cur w' p (.slice a xs.length c) ((i + n : Nat) : Int) ∧ Kp p w w' := by
  by_cases h : i < xs.length
  · exact takeList_mid w p g a c xs i n hC hr hc hn h hin
  · obtain rfl : i = xs.length := by omega
    obtain rfl : n = 0 := by omega
    have := takeList_end w p a xs.length c hC hc0 hc hn
    simpa using this
set_option maxRecDepth 100000 in
set_option maxHeartbeats 1000000 in
theorem takeList_bad (w : World) (p : Nat) (a : Option Addr) (m c i n : Nat) (hC : Cur w p (.slice a m c) i) (hin : m < i + n) (hm : m ≤ 1048576) (hi : i ≤ m) :
    Calls Try.prog 68 #[.pointer (some ⟨p, 0, none⟩), .int .i64 (n : Int)] w fun e w' => Pan e ∧ Only p w w' := by
  have c0 := hC.c0
  have c1 := hC.c1
  have t1 : decide ((m : Int) - (i : Int) < (n : Int)) = true := by simp; omega
  clear hC
  go_enter Try.func68, Try.ntmps68
  go_wp2
  go_quiet (fail)
  go_wp2
  exact ⟨rfl, ⟨_, _, rfl⟩, Only.drewN w p _⟩
end Go.Proofs.Ytcljoaknaegpmaa

/-
  The cursor's numbers of up to eight bytes, and its short text; the program's.
-/
namespace Go.Proofs.Ytcljoaknaegpmaa
open Go Go.RowKit

theorem or_wrap (m x : Int) (x0 : 0 ≤ x) (x1 : x < 256) : bits .or .i64 (wrap64 (m * 256)) x = wrap64 (wrap64 (m * 256) + x) := by
  have e : wrap64 (m * 256) = (wrap64 (m * 256) / 256) * 256 := by unfold wrap64; omega
  have b0 : -9223372036854775808 ≤ wrap64 (m * 256) := by unfold wrap64; omega
  have b1 : wrap64 (m * 256) < 9223372036854775808 := by unfold wrap64; omega
  have := or_byte (wrap64 (m * 256) / 256) x (by omega) (by omega) x0 x1
  rw [← e] at this
  rw [this]
  generalize hv : wrap64 (m * 256) = v at *
  unfold wrap64
  omega
theorem nmV_step (xs : List Int) (i k : Nat) : nmV xs i (k + 1) = wrap64 (wrap64 (nmV xs i k * 256) + xs.getD (i + k) 0) := by
  unfold nmV wrap64
  simp only [beN]
  omega
set_option maxRecDepth 100000 in
set_option maxHeartbeats 1000000 in
theorem numberG_any (w : World) (p g : Nat) (a : Option Addr) (c : Nat) (xs : List Int) (i t : Nat) (hC : Cur w p (.slice a xs.length c) i) (hr : Rd w g a .u8 xs) (hb : Byt xs) (hgp : 0 < xs.length → g ≠ p) (hi : i + t ≤ xs.length) (ht : t ≤ 8) (hn : xs.length ≤ 4194304) :
    Calls Try.prog 69 #[.pointer (some ⟨p, 0, none⟩), .int .i64 (t : Int)] w fun e w' => e = .returned (.int .i64 (nmV xs i t)) ∧ Cur w' p (.slice a xs.length c) ((i + t : Nat) : Int) ∧ Only p w w' := by
  go_enter Try.func69, Try.ntmps69
  go_wp2
  go_loopw [5, 7] (fun v j wr => ∃ k : Nat, k ≤ t ∧ v = .int .i64 (nmV xs i k) ∧ j = .int .i64 k ∧ Cur wr p (.slice a xs.length c) ((i + k : Nat) : Int) ∧ Only p w wr) (fun _ j _ => t - (intOf j).toNat)
  case atStart => exact ⟨0, Nat.zero_le _, by rw [show nmV xs i 0 = 0 by unfold nmV wrap64 beN; decide], rfl, hC, Only.refl _ _⟩
  case round =>
    obtain ⟨k, hk, rfl, rfl, C, O⟩ := hrel
    by_cases hlt : k < t
    · have TK := hide (take_ok wr p g a c xs (i + k) C (hr.of_block' (fun h => O.block g (hgp h))) (by omega) (by omega))
      have bx := hb (i + k)
      have OR := or_wrap (nmV xs i k) (xs.getD (i + k) 0) bx.1 bx.2
      have e := hide (nmV_step xs i k)
      generalize nmV xs i k = m at *
      generalize xs.getD (i + k) 0 = x at *
      have x0 := bx.1
      have x1 := bx.2
      have k1 : (k : Int) < (t : Int) := by omega
      clear bx C
      go_wp2_with fail
      refine TK.out.mono ?_
      rintro r w' ⟨rfl, C', O'⟩
      clear TK
      go_wp2
      go_roundw
      case rel => exact ⟨k + 1, by omega, by rw [e.out], by go_num, C', O.trans O'⟩
      case measure => simp [intOf]; omega
    · obtain rfl : k = t := by omega
      go_wp2
      go_ret
      exact ⟨rfl, C, O⟩
set_option maxRecDepth 100000 in
set_option maxHeartbeats 1000000 in
theorem number_bad (w : World) (p g : Nat) (a : Option Addr) (c : Nat) (xs : List Int) (i t : Nat) (hC : Cur w p (.slice a xs.length c) i) (hr : Rd w g a .u8 xs) (hgp : 0 < xs.length → g ≠ p) (hi : i ≤ xs.length) (hit : xs.length < i + t) (ht : t ≤ 8) (hn : xs.length ≤ 4194304) :
    Calls Try.prog 69 #[.pointer (some ⟨p, 0, none⟩), .int .i64 (t : Int)] w fun e w' => Pan e ∧ Only p w w' := by
  go_enter Try.func69, Try.ntmps69
  go_wp2
  go_loopw [5, 7] (fun v j wr => ∃ (k : Nat) (m : Int), i + k ≤ xs.length ∧ v = .int .i64 m ∧ j = .int .i64 k ∧ Cur wr p (.slice a xs.length c) ((i + k : Nat) : Int) ∧ Only p w wr) (fun _ j _ => t - (intOf j).toNat)
  case atStart => exact ⟨0, 0, hi, rfl, rfl, hC, Only.refl _ _⟩
  case round =>
    obtain ⟨k, m, hk, rfl, rfl, C, O⟩ := hrel
    have k1 : (k : Int) < (t : Int) := by omega
    by_cases hlt : i + k < xs.length
    · have TK := hide (take_ok wr p g a c xs (i + k) C (hr.of_block' (fun h => O.block g (hgp h))) (by omega) (by omega))
      generalize xs.getD (i + k) 0 = x at *
      clear C
      go_wp2_with fail
      refine TK.out.mono ?_
      rintro r w' ⟨rfl, C', O'⟩
      clear TK
      go_wp2
      go_roundw
      case rel => exact ⟨k + 1, _, by omega, rfl, by go_num, C', O.trans O'⟩
      case measure => simp [intOf]; omega
    · have TK := hide (take_bad wr p a xs.length c ((i + k : Nat) : Int) C (by omega))
      clear C
      go_wp2_with fail
      refine TK.out.mono ?_
      rintro r w' ⟨⟨u, v, rfl⟩, O'⟩
      clear TK
      go_wp2
      exact ⟨rfl, ⟨_, _, rfl⟩, O.trans O'⟩
end Go.Proofs.Ytcljoaknaegpmaa

/-
  The cursor's short text, and a ticket's state; the program's (written by gens/dsb.py).
-/
namespace Go.Proofs.Ytcljoaknaegpmaa
open Go Go.RowKit

theorem RwC.kp {w w' : World} {q p : Nat} {cs : List Value} {t : TypeId} (h : RwC w q cs t) (n : Kp p w w') (hq : q ≠ p) : RwC w' q cs t := (n.block q h.lt hq).trans h
theorem Blk.kp {w w' : World} {q p : Nat} {k : IntKind} {ys : List Int} (h : Blk w q k ys) (n : Kp p w w') (hq : q ≠ p) : Blk w' q k ys := h.of_block (n.block q h.lt hq)
theorem Kp.onl {p q : Nat} {a b c : World} (h : Kp p a b) (k : Only q b c) (hq : a.heap.size ≤ q) : Kp p a c :=
  ⟨k.os.trans h.os, k.tape.trans h.tape, k.output.trans h.output, by rw [k.size]; exact h.size, fun i hi hp => (k.block i (by omega)).trans (h.block i hi hp)⟩
set_option maxRecDepth 100000 in
set_option maxHeartbeats 2000000 in
theorem short_any (w : World) (p g : Nat) (a : Option Addr) (c : Nat) (xs : List Int) (i : Nat) (hC : Cur w p (.slice a xs.length c) i) (hr : Rd w g a .u8 xs) (hb : Byt xs) (hgp : 0 < xs.length → g ≠ p) (hc0 : a = none → c = 0) (hc : xs.length ≤ c) (hn : xs.length ≤ 1048576) (hi : i ≤ xs.length) :
    Calls Try.prog 70 #[.pointer (some ⟨p, 0, none⟩)] w fun e w' => ((i + 1 + (beN xs i 1).toNat ≤ xs.length ∧ e = .returned (.string ⟨⟨txB (tkB xs (i + 1) (beN xs i 1).toNat)⟩⟩) ∧ Cur w' p (.slice a xs.length c) ((i + 1 + (beN xs i 1).toNat : Nat) : Int)) ∨ (xs.length < i + 1 + (beN xs i 1).toNat ∧ Pan e)) ∧ Kp p w w' := by
  by_cases h1 : i + 1 ≤ xs.length
  · have NM := hide (numberG_any w p g a c xs i 1 hC hr hb hgp h1 (by omega) (by omega))
    rw [nmV_small hb i 1 (by decide)] at NM
    have r := beN_rng hb i 1
    obtain ⟨n, hn1⟩ := Int.eq_ofNat_of_zero_le r.1
    have e1 : (beN xs i 1).toNat = n := by omega
    rw [e1]
    rw [hn1] at NM
    clear hn1 e1 r hC
    go_enter Try.func70, Try.ntmps70
    go_wp2_with fail
    refine NM.out.mono ?_
    rintro e w1 ⟨rfl, C1, O1⟩
    clear NM
    have hr1 := hr.of_block' (fun h => O1.block g (hgp h))
    by_cases h2 : i + 1 + n ≤ xs.length
    · have TL := hide (takeList_any w1 p g a c xs (i + 1) n C1 hr1 hc0 hc hn h1 h2)
      rw [tkB_take xs (i + 1) n h2] at TL
      have H2 := hide h2
      clear C1 hr1 h2
      go_wp2_with fail
      refine TL.out.mono ?_
      rintro e w2 ⟨rfl, B2, C2, K2⟩
      have cv := conv_run w2 _ _ n _ B2.own0.rd
      rw [tkB_len, str_is] at cv
      have KK := O1.kp.trans K2
      clear TL B2 K2 O1
      go_wp2
      go_ret
      exact ⟨.inl ⟨H2.out, rfl, C2⟩, KK⟩
    · have TL := hide (takeList_bad w1 p a xs.length c (i + 1) n C1 (by omega) hn h1)
      have H2 := hide (show xs.length < i + 1 + n by omega)
      clear C1 hr1 h2
      go_wp2_with fail
      refine TL.out.mono ?_
      rintro e w2 ⟨⟨t, v, rfl⟩, O2⟩
      go_wp2
      exact ⟨rfl, .inr ⟨H2.out, t, v, rfl⟩, O1.kp.trans O2.kp⟩
  · have NM := hide (number_bad w p g a c xs i 1 hC hr hgp hi (by omega) (by omega) (by omega))
    have H2 := hide (show xs.length < i + 1 + (beN xs i 1).toNat by omega)
    clear hC h1
    go_enter Try.func70, Try.ntmps70
    go_wp2_with fail
    refine NM.out.mono ?_
    rintro e w2 ⟨⟨t, v, rfl⟩, O2⟩
    go_wp2
    exact ⟨rfl, .inr ⟨H2.out, t, v, rfl⟩, O2.kp⟩
set_option maxRecDepth 100000 in
set_option maxHeartbeats 16000000 in
theorem state_any (w : World) (p g : Nat) (a : Option Addr) (c : Nat) (b : List Int) (hC : Cur w p (.slice a b.length c) ((0 : Nat) : Int)) (hr : Rd w g a .u8 b) (hb : Byt b) (hgp : 0 < b.length → g ≠ p) (hc0 : a = none → c = 0) (hc : b.length ≤ c) (hn : b.length ≤ 1048576) :
    Calls Try.prog 52 #[.pointer (some ⟨p, 0, none⟩)] w fun e w' => ((82 + dn1 b + dn2 b ≤ b.length ∧ ∃ gX gY, e = .returned (.agg #[.slice (some ⟨gX, 0, none⟩) 32 32, .slice (some ⟨gY, 0, none⟩) 32 32, .int .i64 (dM b), .int .i64 (dL b), .string ⟨⟨dH b⟩⟩, .string ⟨⟨dP b⟩⟩, .int .i64 (dE b)]) ∧ Blk w' gX .u8 (dX b) ∧ Blk w' gY .u8 (dY b) ∧ w.heap.size ≤ gX ∧ gX < gY) ∨ (¬ 82 + dn1 b + dn2 b ≤ b.length ∧ Pan e)) ∧ Kp p w w' := by
  obtain ⟨dR, hdR, hrowR⟩ := rowTs
  have pl := hC.lt
  have z1 : (w.alloc (.cells #[.slice none 0 0, .slice none 0 0, .int .i64 0, .int .i64 0, .string ⟨#[]⟩, .string ⟨#[]⟩, .int .i64 0] 28)).heap.size = w.heap.size + 1 := by simp
  have n1 : Below w.heap.size w (w.alloc (.cells #[.slice none 0 0, .slice none 0 0, .int .i64 0, .int .i64 0, .string ⟨#[]⟩, .string ⟨#[]⟩, .int .i64 0] 28)) := (Below.refl _ _).alloc (Nat.le_refl _) _
  have n2 : Below (w.alloc (.cells #[.slice none 0 0, .slice none 0 0, .int .i64 0, .int .i64 0, .string ⟨#[]⟩, .string ⟨#[]⟩, .int .i64 0] 28)).heap.size (w.alloc (.cells #[.slice none 0 0, .slice none 0 0, .int .i64 0, .int .i64 0, .string ⟨#[]⟩, .string ⟨#[]⟩, .int .i64 0] 28)) ((w.alloc (.cells #[.slice none 0 0, .slice none 0 0, .int .i64 0, .int .i64 0, .string ⟨#[]⟩, .string ⟨#[]⟩, .int .i64 0] 28)).alloc (.cells #[.slice none 0 0, .slice none 0 0, .int .i64 0, .int .i64 0, .string ⟨#[]⟩, .string ⟨#[]⟩, .int .i64 0] 28)) := (Below.refl _ _).alloc (Nat.le_refl _) _
  have Q0 : RwC (w.alloc (.cells #[.slice none 0 0, .slice none 0 0, .int .i64 0, .int .i64 0, .string ⟨#[]⟩, .string ⟨#[]⟩, .int .i64 0] 28)) w.heap.size [.slice none 0 0, .slice none 0 0, .int .i64 0, .int .i64 0, .string ⟨#[]⟩, .string ⟨#[]⟩, .int .i64 0] 28 := RwC.new w _ _
  have T0 : RwC ((w.alloc (.cells #[.slice none 0 0, .slice none 0 0, .int .i64 0, .int .i64 0, .string ⟨#[]⟩, .string ⟨#[]⟩, .int .i64 0] 28)).alloc (.cells #[.slice none 0 0, .slice none 0 0, .int .i64 0, .int .i64 0, .string ⟨#[]⟩, .string ⟨#[]⟩, .int .i64 0] 28)) (w.alloc (.cells #[.slice none 0 0, .slice none 0 0, .int .i64 0, .int .i64 0, .string ⟨#[]⟩, .string ⟨#[]⟩, .int .i64 0] 28)).heap.size [.slice none 0 0, .slice none 0 0, .int .i64 0, .int .i64 0, .string ⟨#[]⟩, .string ⟨#[]⟩, .int .i64 0] 28 := RwC.new _ _ _
  replace Q0 := Q0.up n2
  have N := nxt n1 n2
  rw [z1] at T0
  have zt : w.heap.size + 1 < ((w.alloc (.cells #[.slice none 0 0, .slice none 0 0, .int .i64 0, .int .i64 0, .string ⟨#[]⟩, .string ⟨#[]⟩, .int .i64 0] 28)).alloc (.cells #[.slice none 0 0, .slice none 0 0, .int .i64 0, .int .i64 0, .string ⟨#[]⟩, .string ⟨#[]⟩, .int .i64 0] 28)).heap.size := T0.lt
  have C0 := hC.up N
  have K : Kp p w ((w.alloc (.cells #[.slice none 0 0, .slice none 0 0, .int .i64 0, .int .i64 0, .string ⟨#[]⟩, .string ⟨#[]⟩, .int .i64 0] 28)).alloc (.cells #[.slice none 0 0, .slice none 0 0, .int .i64 0, .int .i64 0, .string ⟨#[]⟩, .string ⟨#[]⟩, .int .i64 0] 28)) := below_kp N
  have L1 := hide (dn1_is hb)
  have L2 := hide (dn2_is hb)
  have E1 : Hid ((beN b 80 1).toNat = dn1 b) := rfl
  have E2 : Hid ((beN b (81 + dn1 b) 1).toNat = dn2 b) := rfl
  clear n1 n2 z1 hC N
  go_enter Try.func52, Try.ntmps52
  go_wp2_with fail
  generalize (w.alloc (.cells #[.slice none 0 0, .slice none 0 0, .int .i64 0, .int .i64 0, .string ⟨#[]⟩, .string ⟨#[]⟩, .int .i64 0] 28)).alloc (.cells #[.slice none 0 0, .slice none 0 0, .int .i64 0, .int .i64 0, .string ⟨#[]⟩, .string ⟨#[]⟩, .int .i64 0] 28) = v0 at *
  have hrk := hr.kp K hgp
  by_cases h0 : 0 + 32 ≤ b.length
  · skip
    have ST := hide (takeList_any v0 p g a c b (0) 32 C0 hrk hc0 hc hn (by omega) h0)
    rw [tkB_take b (0) 32 h0] at ST
    clear hrk
    refine ST.out.mono ?_
    rintro e x0 ⟨rfl, B0, C1, KS⟩
    clear ST
    have zx0 := KS.size
    replace K := K.trans KS
    replace Q0 := Q0.kp KS (by omega)
    replace T0 := T0.kp KS (by omega)
    clear KS C0
    obtain ⟨gX, hgX⟩ : ∃ q, q = v0.heap.size := ⟨_, rfl⟩
    rw [← hgX] at B0 ⊢
    have BX : Blk x0 gX .u8 (dX b) := B0
    have lgX := BX.lt
    have ygX : w.heap.size + 1 < gX := by omega
    clear hgX B0
    replace C1 : Cur x0 p (.slice a b.length c) ((32 : Nat) : Int) := by have := C1; rwa [show 0 + 32 = 32 by omega] at this
    have tc : x0.cell? ⟨w.heap.size + 1, 0, none⟩ = some (.slice none 0 0) := T0.cell 0
    have tf := T0.free 0
    have OS := Only.setCell x0 (w.heap.size + 1) 0 (.slice (some ⟨gX, 0, none⟩) 32 32)
    have T1 : RwC (x0.setCell ⟨w.heap.size + 1, 0, none⟩ (.slice (some ⟨gX, 0, none⟩) 32 32)) (w.heap.size + 1) [.slice (some ⟨gX, 0, none⟩) 32 32, .slice none 0 0, .int .i64 0, .int .i64 0, .string ⟨#[]⟩, .string ⟨#[]⟩, .int .i64 0] 28 := T0.set 0 _
    have C2 := C1.onl OS (by omega)
    have Q1 := Q0.onl OS (by omega)
    have BXn := BX.of_block (OS.block gX (by omega))
    have K1 := K.onl OS (by omega)
    have zs0 : x0.heap.size ≤ (x0.setCell ⟨w.heap.size + 1, 0, none⟩ (.slice (some ⟨gX, 0, none⟩) 32 32)).heap.size := Nat.le_of_eq OS.size.symm
    clear K Q0 T0 C1 OS BX
    go_wp2_with fail
    generalize x0.setCell ⟨w.heap.size + 1, 0, none⟩ (.slice (some ⟨gX, 0, none⟩) 32 32) = u0 at *
    clear tc tf
    have C0 := C2
    have Q0 := Q1
    have T0 := T1
    have K := K1
    clear C2 Q1 T1 K1
    have BX := BXn
    clear BXn
    have hrk := hr.kp K hgp
    by_cases h1 : 32 + 32 ≤ b.length
    · skip
      have ST := hide (takeList_any u0 p g a c b (32) 32 C0 hrk hc0 hc hn (by omega) h1)
      rw [tkB_take b (32) 32 h1] at ST
      skip
      clear hrk
      refine ST.out.mono ?_
      rintro e x1 ⟨rfl, B1, C1, KS⟩
      clear ST
      have zx1 := KS.size
      replace K := K.trans KS
      replace Q0 := Q0.kp KS (by omega)
      replace T0 := T0.kp KS (by omega)
      replace BX := BX.kp KS (by omega)
      clear KS C0
      obtain ⟨gY, hgY⟩ : ∃ q, q = u0.heap.size := ⟨_, rfl⟩
      rw [← hgY] at B1 ⊢
      have BY : Blk x1 gY .u8 (dY b) := B1
      have lgY := BY.lt
      have ygY : gX < gY := by omega
      clear hgY B1
      replace C1 : Cur x1 p (.slice a b.length c) ((64 : Nat) : Int) := by have := C1; rwa [show 32 + 32 = 64 by omega] at this
      have tc : x1.cell? ⟨w.heap.size + 1, 1, none⟩ = some (.slice none 0 0) := T0.cell 1
      have tf := T0.free 1
      have OS := Only.setCell x1 (w.heap.size + 1) 1 (.slice (some ⟨gY, 0, none⟩) 32 32)
      have T1 : RwC (x1.setCell ⟨w.heap.size + 1, 1, none⟩ (.slice (some ⟨gY, 0, none⟩) 32 32)) (w.heap.size + 1) [.slice (some ⟨gX, 0, none⟩) 32 32, .slice (some ⟨gY, 0, none⟩) 32 32, .int .i64 0, .int .i64 0, .string ⟨#[]⟩, .string ⟨#[]⟩, .int .i64 0] 28 := T0.set 1 _
      have C2 := C1.onl OS (by omega)
      have Q1 := Q0.onl OS (by omega)
      have BXn := BX.of_block (OS.block gX (by omega))
      have BYn := BY.of_block (OS.block gY (by omega))
      have K1 := K.onl OS (by omega)
      have zs1 : x1.heap.size ≤ (x1.setCell ⟨w.heap.size + 1, 1, none⟩ (.slice (some ⟨gY, 0, none⟩) 32 32)).heap.size := Nat.le_of_eq OS.size.symm
      clear K Q0 T0 C1 OS BX BY
      go_wp2_with fail
      generalize x1.setCell ⟨w.heap.size + 1, 1, none⟩ (.slice (some ⟨gY, 0, none⟩) 32 32) = u1 at *
      clear tc tf
      have C0 := C2
      have Q0 := Q1
      have T0 := T1
      have K := K1
      clear C2 Q1 T1 K1
      have BX := BXn
      clear BXn
      have BY := BYn
      clear BYn
      have hrk := hr.kp K hgp
      by_cases h2 : 64 + 8 ≤ b.length
      · skip
        have ST := hide (numberG_any u1 p g a c b (64) 8 C0 hrk hb hgp h2 (by omega) (by omega))
        skip
        clear hrk
        refine ST.out.mono ?_
        rintro e x2 ⟨rfl, C1, OS⟩
        have KS := OS.kp
        clear ST OS
        have zx2 := KS.size
        replace K := K.trans KS
        replace Q0 := Q0.kp KS (by omega)
        replace T0 := T0.kp KS (by omega)
        replace BX := BX.kp KS (by omega)
        replace BY := BY.kp KS (by omega)
        clear KS C0
        rw [show nmV b (64) 8 = dM b from rfl]
        replace C1 : Cur x2 p (.slice a b.length c) ((72 : Nat) : Int) := by have := C1; rwa [show 64 + 8 = 72 by omega] at this
        have tc : x2.cell? ⟨w.heap.size + 1, 2, none⟩ = some (.int .i64 0) := T0.cell 2
        have tf := T0.free 2
        have OS := Only.setCell x2 (w.heap.size + 1) 2 (.int .i64 (dM b))
        have T1 : RwC (x2.setCell ⟨w.heap.size + 1, 2, none⟩ (.int .i64 (dM b))) (w.heap.size + 1) [.slice (some ⟨gX, 0, none⟩) 32 32, .slice (some ⟨gY, 0, none⟩) 32 32, .int .i64 (dM b), .int .i64 0, .string ⟨#[]⟩, .string ⟨#[]⟩, .int .i64 0] 28 := T0.set 2 _
        have C2 := C1.onl OS (by omega)
        have Q1 := Q0.onl OS (by omega)
        have BXn := BX.of_block (OS.block gX (by omega))
        have BYn := BY.of_block (OS.block gY (by omega))
        have K1 := K.onl OS (by omega)
        have zs2 : x2.heap.size ≤ (x2.setCell ⟨w.heap.size + 1, 2, none⟩ (.int .i64 (dM b))).heap.size := Nat.le_of_eq OS.size.symm
        clear K Q0 T0 C1 OS BX BY
        go_wp2_with fail
        generalize x2.setCell ⟨w.heap.size + 1, 2, none⟩ (.int .i64 (dM b)) = u2 at *
        clear tc tf
        have C0 := C2
        have Q0 := Q1
        have T0 := T1
        have K := K1
        clear C2 Q1 T1 K1
        have BX := BXn
        clear BXn
        have BY := BYn
        clear BYn
        have hrk := hr.kp K hgp
        by_cases h3 : 72 + 4 ≤ b.length
        · skip
          have ST := hide (numberG_any u2 p g a c b (72) 4 C0 hrk hb hgp h3 (by omega) (by omega))
          skip
          clear hrk
          refine ST.out.mono ?_
          rintro e x3 ⟨rfl, C1, OS⟩
          have KS := OS.kp
          clear ST OS
          have zx3 := KS.size
          replace K := K.trans KS
          replace Q0 := Q0.kp KS (by omega)
          replace T0 := T0.kp KS (by omega)
          replace BX := BX.kp KS (by omega)
          replace BY := BY.kp KS (by omega)
          clear KS C0
          rw [show nmV b (72) 4 = dL b from rfl]
          replace C1 : Cur x3 p (.slice a b.length c) ((76 : Nat) : Int) := by have := C1; rwa [show 72 + 4 = 76 by omega] at this
          have tc : x3.cell? ⟨w.heap.size + 1, 3, none⟩ = some (.int .i64 0) := T0.cell 3
          have tf := T0.free 3
          have OS := Only.setCell x3 (w.heap.size + 1) 3 (.int .i64 (dL b))
          have T1 : RwC (x3.setCell ⟨w.heap.size + 1, 3, none⟩ (.int .i64 (dL b))) (w.heap.size + 1) [.slice (some ⟨gX, 0, none⟩) 32 32, .slice (some ⟨gY, 0, none⟩) 32 32, .int .i64 (dM b), .int .i64 (dL b), .string ⟨#[]⟩, .string ⟨#[]⟩, .int .i64 0] 28 := T0.set 3 _
          have C2 := C1.onl OS (by omega)
          have Q1 := Q0.onl OS (by omega)
          have BXn := BX.of_block (OS.block gX (by omega))
          have BYn := BY.of_block (OS.block gY (by omega))
          have K1 := K.onl OS (by omega)
          have zs3 : x3.heap.size ≤ (x3.setCell ⟨w.heap.size + 1, 3, none⟩ (.int .i64 (dL b))).heap.size := Nat.le_of_eq OS.size.symm
          clear K Q0 T0 C1 OS BX BY
          go_wp2_with fail
          generalize x3.setCell ⟨w.heap.size + 1, 3, none⟩ (.int .i64 (dL b)) = u3 at *
          clear tc tf
          have C0 := C2
          have Q0 := Q1
          have T0 := T1
          have K := K1
          clear C2 Q1 T1 K1
          have BX := BXn
          clear BXn
          have BY := BYn
          clear BYn
          have hrk := hr.kp K hgp
          by_cases h4 : 76 + 4 ≤ b.length
          · skip
            have ST := hide (numberG_any u3 p g a c b (76) 4 C0 hrk hb hgp h4 (by omega) (by omega))
            skip
            clear hrk
            refine ST.out.mono ?_
            rintro e x4 ⟨rfl, C1, OS⟩
            have KS := OS.kp
            clear ST OS
            have zx4 := KS.size
            replace K := K.trans KS
            replace Q0 := Q0.kp KS (by omega)
            replace T0 := T0.kp KS (by omega)
            replace BX := BX.kp KS (by omega)
            replace BY := BY.kp KS (by omega)
            clear KS C0
            rw [show nmV b (76) 4 = dE b from rfl]
            replace C1 : Cur x4 p (.slice a b.length c) ((80 : Nat) : Int) := by have := C1; rwa [show 76 + 4 = 80 by omega] at this
            have tc : x4.cell? ⟨w.heap.size + 1, 6, none⟩ = some (.int .i64 0) := T0.cell 6
            have tf := T0.free 6
            have OS := Only.setCell x4 (w.heap.size + 1) 6 (.int .i64 (dE b))
            have T1 : RwC (x4.setCell ⟨w.heap.size + 1, 6, none⟩ (.int .i64 (dE b))) (w.heap.size + 1) [.slice (some ⟨gX, 0, none⟩) 32 32, .slice (some ⟨gY, 0, none⟩) 32 32, .int .i64 (dM b), .int .i64 (dL b), .string ⟨#[]⟩, .string ⟨#[]⟩, .int .i64 (dE b)] 28 := T0.set 6 _
            have C2 := C1.onl OS (by omega)
            have Q1 := Q0.onl OS (by omega)
            have BXn := BX.of_block (OS.block gX (by omega))
            have BYn := BY.of_block (OS.block gY (by omega))
            have K1 := K.onl OS (by omega)
            have zs4 : x4.heap.size ≤ (x4.setCell ⟨w.heap.size + 1, 6, none⟩ (.int .i64 (dE b))).heap.size := Nat.le_of_eq OS.size.symm
            clear K Q0 T0 C1 OS BX BY
            go_wp2_with fail
            generalize x4.setCell ⟨w.heap.size + 1, 6, none⟩ (.int .i64 (dE b)) = u4 at *
            clear tc tf
            have C0 := C2
            have Q0 := Q1
            have T0 := T1
            have K := K1
            clear C2 Q1 T1 K1
            have BX := BXn
            clear BXn
            have BY := BYn
            clear BYn
            have hrk := hr.kp K hgp
            have ST := hide (short_any u4 p g a c b (80) C0 hrk hb hgp hc0 hc hn (by omega))
            rw [E1.out] at ST
            skip
            clear hrk
            refine ST.out.mono ?_
            rintro e x5 ⟨hs, KS⟩
            clear ST
            rcases hs with ⟨h5, rfl, C1⟩ | ⟨h5, t, v, rfl⟩
            rotate_left
            · have H2 := hide (show ¬ 82 + dn1 b + dn2 b ≤ b.length by omega)
              go_wp2
              exact ⟨rfl, .inr ⟨H2.out, t, v, rfl⟩, K.trans KS⟩
            have zx5 := KS.size
            replace K := K.trans KS
            replace Q0 := Q0.kp KS (by omega)
            replace T0 := T0.kp KS (by omega)
            replace BX := BX.kp KS (by omega)
            replace BY := BY.kp KS (by omega)
            clear KS C0
            rw [show txB (tkB b (80 + 1) (dn1 b)) = dH b from rfl]
            replace C1 : Cur x5 p (.slice a b.length c) ((81 + dn1 b : Nat) : Int) := by have := C1; rwa [show 80 + 1 + dn1 b = 81 + dn1 b by omega] at this
            have tc : x5.cell? ⟨w.heap.size + 1, 4, none⟩ = some (.string ⟨#[]⟩) := T0.cell 4
            have tf := T0.free 4
            have OS := Only.setCell x5 (w.heap.size + 1) 4 (.string ⟨⟨dH b⟩⟩)
            have T1 : RwC (x5.setCell ⟨w.heap.size + 1, 4, none⟩ (.string ⟨⟨dH b⟩⟩)) (w.heap.size + 1) [.slice (some ⟨gX, 0, none⟩) 32 32, .slice (some ⟨gY, 0, none⟩) 32 32, .int .i64 (dM b), .int .i64 (dL b), .string ⟨⟨dH b⟩⟩, .string ⟨#[]⟩, .int .i64 (dE b)] 28 := T0.set 4 _
            have C2 := C1.onl OS (by omega)
            have Q1 := Q0.onl OS (by omega)
            have BXn := BX.of_block (OS.block gX (by omega))
            have BYn := BY.of_block (OS.block gY (by omega))
            have K1 := K.onl OS (by omega)
            have zs5 : x5.heap.size ≤ (x5.setCell ⟨w.heap.size + 1, 4, none⟩ (.string ⟨⟨dH b⟩⟩)).heap.size := Nat.le_of_eq OS.size.symm
            clear K Q0 T0 C1 OS BX BY
            go_wp2_with fail
            generalize x5.setCell ⟨w.heap.size + 1, 4, none⟩ (.string ⟨⟨dH b⟩⟩) = u5 at *
            clear tc tf
            have C0 := C2
            have Q0 := Q1
            have T0 := T1
            have K := K1
            clear C2 Q1 T1 K1
            have BX := BXn
            clear BXn
            have BY := BYn
            clear BYn
            have hrk := hr.kp K hgp
            have ST := hide (short_any u5 p g a c b (81 + dn1 b) C0 hrk hb hgp hc0 hc hn (by omega))
            rw [E2.out] at ST
            skip
            clear hrk
            refine ST.out.mono ?_
            rintro e x6 ⟨hs, KS⟩
            clear ST
            rcases hs with ⟨h6, rfl, C1⟩ | ⟨h6, t, v, rfl⟩
            rotate_left
            · have H2 := hide (show ¬ 82 + dn1 b + dn2 b ≤ b.length by omega)
              go_wp2
              exact ⟨rfl, .inr ⟨H2.out, t, v, rfl⟩, K.trans KS⟩
            have zx6 := KS.size
            replace K := K.trans KS
            replace Q0 := Q0.kp KS (by omega)
            replace T0 := T0.kp KS (by omega)
            replace BX := BX.kp KS (by omega)
            replace BY := BY.kp KS (by omega)
            clear KS C0
            rw [show txB (tkB b (81 + dn1 b + 1) (dn2 b)) = dP b from by unfold dP; rw [show 81 + dn1 b + 1 = 82 + dn1 b by omega]]
            replace C1 : Cur x6 p (.slice a b.length c) ((82 + dn1 b + dn2 b : Nat) : Int) := by have := C1; rwa [show 81 + dn1 b + 1 + dn2 b = 82 + dn1 b + dn2 b by omega] at this
            have tc : x6.cell? ⟨w.heap.size + 1, 5, none⟩ = some (.string ⟨#[]⟩) := T0.cell 5
            have tf := T0.free 5
            have OS := Only.setCell x6 (w.heap.size + 1) 5 (.string ⟨⟨dP b⟩⟩)
            have T1 : RwC (x6.setCell ⟨w.heap.size + 1, 5, none⟩ (.string ⟨⟨dP b⟩⟩)) (w.heap.size + 1) [.slice (some ⟨gX, 0, none⟩) 32 32, .slice (some ⟨gY, 0, none⟩) 32 32, .int .i64 (dM b), .int .i64 (dL b), .string ⟨⟨dH b⟩⟩, .string ⟨⟨dP b⟩⟩, .int .i64 (dE b)] 28 := T0.set 5 _
            have C2 := C1.onl OS (by omega)
            have Q1 := Q0.onl OS (by omega)
            have BXn := BX.of_block (OS.block gX (by omega))
            have BYn := BY.of_block (OS.block gY (by omega))
            have K1 := K.onl OS (by omega)
            have zs6 : x6.heap.size ≤ (x6.setCell ⟨w.heap.size + 1, 5, none⟩ (.string ⟨⟨dP b⟩⟩)).heap.size := Nat.le_of_eq OS.size.symm
            clear K Q0 T0 C1 OS BX BY
            have t0 : (x6.setCell ⟨w.heap.size + 1, 5, none⟩ (.string ⟨⟨dP b⟩⟩)).cell? ⟨w.heap.size + 1, 0, none⟩ = some (.slice (some ⟨gX, 0, none⟩) 32 32) := T1.cell 0
            have qc0 : (x6.setCell ⟨w.heap.size + 1, 5, none⟩ (.string ⟨⟨dP b⟩⟩)).cell? ⟨w.heap.size, 0, none⟩ = some (.slice none 0 0) := Q1.cell 0
            have qf0 := Q1.free 0
            have t1 : (x6.setCell ⟨w.heap.size + 1, 5, none⟩ (.string ⟨⟨dP b⟩⟩)).cell? ⟨w.heap.size + 1, 1, none⟩ = some (.slice (some ⟨gY, 0, none⟩) 32 32) := T1.cell 1
            have qc1 : (x6.setCell ⟨w.heap.size + 1, 5, none⟩ (.string ⟨⟨dP b⟩⟩)).cell? ⟨w.heap.size, 1, none⟩ = some (.slice none 0 0) := Q1.cell 1
            have qf1 := Q1.free 1
            have t2 : (x6.setCell ⟨w.heap.size + 1, 5, none⟩ (.string ⟨⟨dP b⟩⟩)).cell? ⟨w.heap.size + 1, 2, none⟩ = some (.int .i64 (dM b)) := T1.cell 2
            have qc2 : (x6.setCell ⟨w.heap.size + 1, 5, none⟩ (.string ⟨⟨dP b⟩⟩)).cell? ⟨w.heap.size, 2, none⟩ = some (.int .i64 0) := Q1.cell 2
            have qf2 := Q1.free 2
            have t3 : (x6.setCell ⟨w.heap.size + 1, 5, none⟩ (.string ⟨⟨dP b⟩⟩)).cell? ⟨w.heap.size + 1, 3, none⟩ = some (.int .i64 (dL b)) := T1.cell 3
            have qc3 : (x6.setCell ⟨w.heap.size + 1, 5, none⟩ (.string ⟨⟨dP b⟩⟩)).cell? ⟨w.heap.size, 3, none⟩ = some (.int .i64 0) := Q1.cell 3
            have qf3 := Q1.free 3
            have t4 : (x6.setCell ⟨w.heap.size + 1, 5, none⟩ (.string ⟨⟨dP b⟩⟩)).cell? ⟨w.heap.size + 1, 4, none⟩ = some (.string ⟨⟨dH b⟩⟩) := T1.cell 4
            have qc4 : (x6.setCell ⟨w.heap.size + 1, 5, none⟩ (.string ⟨⟨dP b⟩⟩)).cell? ⟨w.heap.size, 4, none⟩ = some (.string ⟨#[]⟩) := Q1.cell 4
            have qf4 := Q1.free 4
            have t5 : (x6.setCell ⟨w.heap.size + 1, 5, none⟩ (.string ⟨⟨dP b⟩⟩)).cell? ⟨w.heap.size + 1, 5, none⟩ = some (.string ⟨⟨dP b⟩⟩) := T1.cell 5
            have qc5 : (x6.setCell ⟨w.heap.size + 1, 5, none⟩ (.string ⟨⟨dP b⟩⟩)).cell? ⟨w.heap.size, 5, none⟩ = some (.string ⟨#[]⟩) := Q1.cell 5
            have qf5 := Q1.free 5
            have t6 : (x6.setCell ⟨w.heap.size + 1, 5, none⟩ (.string ⟨⟨dP b⟩⟩)).cell? ⟨w.heap.size + 1, 6, none⟩ = some (.int .i64 (dE b)) := T1.cell 6
            have qc6 : (x6.setCell ⟨w.heap.size + 1, 5, none⟩ (.string ⟨⟨dP b⟩⟩)).cell? ⟨w.heap.size, 6, none⟩ = some (.int .i64 0) := Q1.cell 6
            have qf6 := Q1.free 6
            have RF : RwC ((((((((x6.setCell ⟨w.heap.size + 1, 5, none⟩ (.string ⟨⟨dP b⟩⟩)).setCell ⟨w.heap.size, 0, none⟩ (.slice (some ⟨gX, 0, none⟩) 32 32)).setCell ⟨w.heap.size, 1, none⟩ (.slice (some ⟨gY, 0, none⟩) 32 32)).setCell ⟨w.heap.size, 2, none⟩ (.int .i64 (dM b))).setCell ⟨w.heap.size, 3, none⟩ (.int .i64 (dL b))).setCell ⟨w.heap.size, 4, none⟩ (.string ⟨⟨dH b⟩⟩)).setCell ⟨w.heap.size, 5, none⟩ (.string ⟨⟨dP b⟩⟩)).setCell ⟨w.heap.size, 6, none⟩ (.int .i64 (dE b))) w.heap.size [.slice (some ⟨gX, 0, none⟩) 32 32, .slice (some ⟨gY, 0, none⟩) 32 32, .int .i64 (dM b), .int .i64 (dL b), .string ⟨⟨dH b⟩⟩, .string ⟨⟨dP b⟩⟩, .int .i64 (dE b)] 28 := (((((((Q1.set 0 (.slice (some ⟨gX, 0, none⟩) 32 32)).set 1 (.slice (some ⟨gY, 0, none⟩) 32 32)).set 2 (.int .i64 (dM b))).set 3 (.int .i64 (dL b))).set 4 (.string ⟨⟨dH b⟩⟩)).set 5 (.string ⟨⟨dP b⟩⟩)).set 6 (.int .i64 (dE b)))
            have OF : Only w.heap.size (x6.setCell ⟨w.heap.size + 1, 5, none⟩ (.string ⟨⟨dP b⟩⟩)) ((((((((x6.setCell ⟨w.heap.size + 1, 5, none⟩ (.string ⟨⟨dP b⟩⟩)).setCell ⟨w.heap.size, 0, none⟩ (.slice (some ⟨gX, 0, none⟩) 32 32)).setCell ⟨w.heap.size, 1, none⟩ (.slice (some ⟨gY, 0, none⟩) 32 32)).setCell ⟨w.heap.size, 2, none⟩ (.int .i64 (dM b))).setCell ⟨w.heap.size, 3, none⟩ (.int .i64 (dL b))).setCell ⟨w.heap.size, 4, none⟩ (.string ⟨⟨dH b⟩⟩)).setCell ⟨w.heap.size, 5, none⟩ (.string ⟨⟨dP b⟩⟩)).setCell ⟨w.heap.size, 6, none⟩ (.int .i64 (dE b))) := (((((((Only.refl w.heap.size (x6.setCell ⟨w.heap.size + 1, 5, none⟩ (.string ⟨⟨dP b⟩⟩))).trans (Only.setCell _ w.heap.size 0 _)).trans (Only.setCell _ w.heap.size 1 _)).trans (Only.setCell _ w.heap.size 2 _)).trans (Only.setCell _ w.heap.size 3 _)).trans (Only.setCell _ w.heap.size 4 _)).trans (Only.setCell _ w.heap.size 5 _)).trans (Only.setCell _ w.heap.size 6 _)
            have RR := RF.rangeG
            have KF := hide (K1.onl OF (Nat.le_refl _))
            have BX2 := hide (BXn.of_block (OF.block gX (by omega)))
            have BY2 := hide (BYn.of_block (OF.block gY (by omega)))
            have H6 := hide (show 82 + dn1 b + dn2 b ≤ b.length by omega)
            clear RF OF
            go_wp2
            exact bodyPost_ret (v := .agg #[.slice (some ⟨gX, 0, none⟩) 32 32, .slice (some ⟨gY, 0, none⟩) 32 32, .int .i64 (dM b), .int .i64 (dL b), .string ⟨⟨dH b⟩⟩, .string ⟨⟨dP b⟩⟩, .int .i64 (dE b)]) (results_cellG Try.results52 _ _ w.heap.size _ dR rfl RR hdR hrowR iTs) rfl ⟨.inl ⟨H6.out, gX, gY, rfl, BX2.out, BY2.out, by omega, by omega⟩, KF.out⟩
          · have H2 := hide (show ¬ 82 + dn1 b + dn2 b ≤ b.length by omega)
            have ST := hide (number_bad u3 p g a c b (76) 4 C0 hrk hgp (by omega) (by omega) (by omega) (by omega))
            refine ST.out.mono ?_
            rintro e xb ⟨⟨t, v, rfl⟩, OB⟩
            go_wp2
            exact ⟨rfl, .inr ⟨H2.out, t, v, rfl⟩, K.trans OB.kp⟩
        · have H2 := hide (show ¬ 82 + dn1 b + dn2 b ≤ b.length by omega)
          have ST := hide (number_bad u2 p g a c b (72) 4 C0 hrk hgp (by omega) (by omega) (by omega) (by omega))
          refine ST.out.mono ?_
          rintro e xb ⟨⟨t, v, rfl⟩, OB⟩
          go_wp2
          exact ⟨rfl, .inr ⟨H2.out, t, v, rfl⟩, K.trans OB.kp⟩
      · have H2 := hide (show ¬ 82 + dn1 b + dn2 b ≤ b.length by omega)
        have ST := hide (number_bad u1 p g a c b (64) 8 C0 hrk hgp (by omega) (by omega) (by omega) (by omega))
        refine ST.out.mono ?_
        rintro e xb ⟨⟨t, v, rfl⟩, OB⟩
        go_wp2
        exact ⟨rfl, .inr ⟨H2.out, t, v, rfl⟩, K.trans OB.kp⟩
    · have H2 := hide (show ¬ 82 + dn1 b + dn2 b ≤ b.length by omega)
      have ST := hide (takeList_bad u0 p a b.length c (32) 32 C0 (by omega) hn (by omega))
      refine ST.out.mono ?_
      rintro e xb ⟨⟨t, v, rfl⟩, OB⟩
      go_wp2
      exact ⟨rfl, .inr ⟨H2.out, t, v, rfl⟩, K.trans OB.kp⟩
  · have H2 := hide (show ¬ 82 + dn1 b + dn2 b ≤ b.length by omega)
    have ST := hide (takeList_bad v0 p a b.length c (0) 32 C0 (by omega) hn (by omega))
    refine ST.out.mono ?_
    rintro e xb ⟨⟨t, v, rfl⟩, OB⟩
    go_wp2
    exact ⟨rfl, .inr ⟨H2.out, t, v, rfl⟩, K.trans OB.kp⟩
end Go.Proofs.Ytcljoaknaegpmaa

/-
  bytes.Equal.
-/
namespace Go.Proofs.Ytcljoaknaegpmaa
open Go Go.RowKit

set_option maxRecDepth 100000 in
theorem bytesEqual_any (w : World) (g g' : Nat) (a b : Option Addr) (ca cb : Nat) (xs ys : List Int) (ha : Rd w g a .u8 xs) (hb : Rd w g' b .u8 ys) (hx : Byt xs) (hy : Byt ys) :
    Calls Try.prog 53 #[.slice a xs.length ca, .slice b ys.length cb] w fun e w' => e = .returned (.bool (decide (xs = ys))) ∧ w' = w := by
  have h1 := conv_run w g a ca xs ha
  have h2 := conv_run w g' b cb ys hb
  by_cases e : xs = ys
  · subst e
    generalize str xs = s at *
    go_enter Try.func53, Try.ntmps53
    go_wp2
    go_ret
    exact ⟨by simp, rfl⟩
  · have D := hide (show decide (xs = ys) = false by simpa using e)
    have h3 : str xs ≠ str ys := fun h => e (str_inj hx hy h)
    generalize str xs = s at *
    generalize str ys = t at *
    have H3 := hide h3
    clear h3 e
    go_enter Try.func53, Try.ntmps53
    go_wp2
    go_ret
    have e : (s.toList == t.toList) = false := by
      cases h : (s.toList == t.toList)
      · rfl
      · exact absurd (toList_inj (beq_iff_eq.1 h)) H3.out
    exact ⟨by rw [D.out, ← e]; rfl, rfl⟩
end Go.Proofs.Ytcljoaknaegpmaa

/-
  A ticket's state out of bytes; the program's (written by gens/dsi.py).
-/
namespace Go.Proofs.Ytcljoaknaegpmaa
open Go Go.RowKit

theorem results_cellD {P : Program} {fn : Func} {p : Tmp} {ty : TypeId} (h : fn.results = #[.cell p ty]) (tmps : Array Value) (w : World) (g : Nat) (cs : List Value) (d : TypeDesc)
    (hp : tmps.getD p undef = .pointer (some ⟨g, 0, none⟩)) (hc : w.rangeAt g 0 cs) (hu : P.underlying ty = some d) (hd : d.isRow = true) (hi : (P.info? ty).map (·.size) = some cs.length) :
    (results fn tmps).run P w = .ok (.agg cs.toArray) w := results_cellG h tmps w g cs d hp hc hu hd hi
set_option maxRecDepth 100000 in
theorem dcCatch_pan (p : Nat) (u : TypeId) (pv : Value) (w : World) (hT : RwC w p [.bool false, .slice none 0 0, .slice none 0 0, .int .i64 0, .int .i64 0, .string ⟨#[]⟩, .string ⟨#[]⟩, .int .i64 0] 36) :
    CallsD Try.prog 51 #[.pointer (some ⟨p, 0, none⟩)] (.panicking [{ v := .iface u pv, recovered := false }]) w fun e u' w' =>
      e = .returned (.tuple #[]) ∧ u' = .panicking [{ v := .iface u pv, recovered := true }] ∧ Only p w w' ∧ RwC w' p [.bool false, .slice none 0 0, .slice none 0 0, .int .i64 0, .int .i64 0, .string ⟨#[]⟩, .string ⟨#[]⟩, .int .i64 0] 36 := by
  have c0 : w.cell? ⟨p, 0, none⟩ = some (.bool false) := hT.cell 0
  have f0 := hT.free 0
  have c1 : w.cell? ⟨p, 1, none⟩ = some (.slice none 0 0) := hT.cell 1
  have f1 := hT.free 1
  have c2 : w.cell? ⟨p, 2, none⟩ = some (.slice none 0 0) := hT.cell 2
  have f2 := hT.free 2
  have c3 : w.cell? ⟨p, 3, none⟩ = some (.int .i64 0) := hT.cell 3
  have f3 := hT.free 3
  have c4 : w.cell? ⟨p, 4, none⟩ = some (.int .i64 0) := hT.cell 4
  have f4 := hT.free 4
  have c5 : w.cell? ⟨p, 5, none⟩ = some (.string ⟨#[]⟩) := hT.cell 5
  have f5 := hT.free 5
  have c6 : w.cell? ⟨p, 6, none⟩ = some (.string ⟨#[]⟩) := hT.cell 6
  have f6 := hT.free 6
  have c7 : w.cell? ⟨p, 7, none⟩ = some (.int .i64 0) := hT.cell 7
  have f7 := hT.free 7
  have K : Hid (RwC ((((((((w.setCell ⟨p, 0, none⟩ (.bool false)).setCell ⟨p, 1, none⟩ (.slice none 0 0)).setCell ⟨p, 2, none⟩ (.slice none 0 0)).setCell ⟨p, 3, none⟩ (.int .i64 0)).setCell ⟨p, 4, none⟩ (.int .i64 0)).setCell ⟨p, 5, none⟩ (.string ⟨#[]⟩)).setCell ⟨p, 6, none⟩ (.string ⟨#[]⟩)).setCell ⟨p, 7, none⟩ (.int .i64 0)) p [.bool false, .slice none 0 0, .slice none 0 0, .int .i64 0, .int .i64 0, .string ⟨#[]⟩, .string ⟨#[]⟩, .int .i64 0] 36) := ((((((((hT.set 0 (.bool false)).set 1 (.slice none 0 0)).set 2 (.slice none 0 0)).set 3 (.int .i64 0)).set 4 (.int .i64 0)).set 5 (.string ⟨#[]⟩)).set 6 (.string ⟨#[]⟩)).set 7 (.int .i64 0))
  have O : Hid (Only p w ((((((((w.setCell ⟨p, 0, none⟩ (.bool false)).setCell ⟨p, 1, none⟩ (.slice none 0 0)).setCell ⟨p, 2, none⟩ (.slice none 0 0)).setCell ⟨p, 3, none⟩ (.int .i64 0)).setCell ⟨p, 4, none⟩ (.int .i64 0)).setCell ⟨p, 5, none⟩ (.string ⟨#[]⟩)).setCell ⟨p, 6, none⟩ (.string ⟨#[]⟩)).setCell ⟨p, 7, none⟩ (.int .i64 0))) := ((((((((Only.refl p w).trans (Only.setCell _ p 0 _)).trans (Only.setCell _ p 1 _)).trans (Only.setCell _ p 2 _)).trans (Only.setCell _ p 3 _)).trans (Only.setCell _ p 4 _)).trans (Only.setCell _ p 5 _)).trans (Only.setCell _ p 6 _)).trans (Only.setCell _ p 7 _)
  clear hT
  refine callsD_of_wpS Try.func51 rfl fun c₀ cs hu => ?_
  apply wpS_seq
  apply wpS_region
  simp [wpOpsS, go_sem, recoverD, hu, Try.ntmps51, Exit.thenS]
  refine wpS_cond (t := true) (by simp [Act.eval, Array.replicate]) ?_
  simp only [if_true]
  refine wpS_of_wp ?_
  go_wp2
  exact ⟨rfl, _, rfl, .tuple #[], by simp [results, Try.results51, go_sem], rfl, rfl, O.out, K.out⟩
set_option maxRecDepth 100000 in
theorem dcCatch_idle (p : Addr) (w : World) :
    CallsD Try.prog 51 #[.pointer (some p)] .returning w fun e u' w' => e = .returned (.tuple #[]) ∧ u' = .returning ∧ w' = w := by
  refine callsD_of_wpS Try.func51 rfl fun c₀ cs hu => ?_
  apply wpS_seq
  apply wpS_region
  simp [wpOpsS, go_sem, recoverD, hu, Try.ntmps51, Exit.thenS]
  refine wpS_cond (t := false) (by simp [Act.eval, Array.replicate]) ?_
  simp only [Bool.false_eq_true, if_false]
  refine wpS_of_wp (wp_skip ?_)
  cases c₀
  simp_all [bodyPostS, results, Try.results51]
set_option maxRecDepth 100000 in
set_option maxHeartbeats 16000000 in
theorem implDcS_any (w : World) (g : Nat) (a : Option Addr) (c : Nat) (b : List Int) (hr : Rd w g a .u8 b) (hb : Byt b) (hc0 : a = none → c = 0) (hc : b.length ≤ c) (hl : b.length ≤ 1048576) :
    Calls Try.prog 32 #[.slice a b.length c] w fun e w' => NewD w.heap.size w' e b ∧ Below w.heap.size w w' := by
  have hmf : ∀ (fn : Fn) (first cap : Array Value) (w : World), (Instr.makeFunc fn first cap).run Try.prog w = .ok (.func fn first cap) w := fun _ _ _ _ => rfl
  obtain ⟨dR, hdR, hrowR⟩ := rowSr
  have z1 : (w.alloc (.cells #[.bool false, .slice none 0 0, .slice none 0 0, .int .i64 0, .int .i64 0, .string ⟨#[]⟩, .string ⟨#[]⟩, .int .i64 0] 36)).heap.size = w.heap.size + 1 := by simp
  have n1 : Below w.heap.size w (w.alloc (.cells #[.bool false, .slice none 0 0, .slice none 0 0, .int .i64 0, .int .i64 0, .string ⟨#[]⟩, .string ⟨#[]⟩, .int .i64 0] 36)) := (Below.refl _ _).alloc (Nat.le_refl _) _
  have n2 : Below (w.alloc (.cells #[.bool false, .slice none 0 0, .slice none 0 0, .int .i64 0, .int .i64 0, .string ⟨#[]⟩, .string ⟨#[]⟩, .int .i64 0] 36)).heap.size (w.alloc (.cells #[.bool false, .slice none 0 0, .slice none 0 0, .int .i64 0, .int .i64 0, .string ⟨#[]⟩, .string ⟨#[]⟩, .int .i64 0] 36)) ((w.alloc (.cells #[.bool false, .slice none 0 0, .slice none 0 0, .int .i64 0, .int .i64 0, .string ⟨#[]⟩, .string ⟨#[]⟩, .int .i64 0] 36)).alloc (.cells #[.slice a b.length c, .int .i64 0] 71)) := (Below.refl _ _).alloc (Nat.le_refl _) _
  have Q0 : RwC (w.alloc (.cells #[.bool false, .slice none 0 0, .slice none 0 0, .int .i64 0, .int .i64 0, .string ⟨#[]⟩, .string ⟨#[]⟩, .int .i64 0] 36)) w.heap.size [.bool false, .slice none 0 0, .slice none 0 0, .int .i64 0, .int .i64 0, .string ⟨#[]⟩, .string ⟨#[]⟩, .int .i64 0] 36 := RwC.new w _ _
  have C0 : Cur ((w.alloc (.cells #[.bool false, .slice none 0 0, .slice none 0 0, .int .i64 0, .int .i64 0, .string ⟨#[]⟩, .string ⟨#[]⟩, .int .i64 0] 36)).alloc (.cells #[.slice a b.length c, .int .i64 0] 71)) (w.alloc (.cells #[.bool false, .slice none 0 0, .slice none 0 0, .int .i64 0, .int .i64 0, .string ⟨#[]⟩, .string ⟨#[]⟩, .int .i64 0] 36)).heap.size (.slice a b.length c) ((0 : Nat) : Int) := ⟨71, heap_alloc_new _ _⟩
  have N := nxt n1 n2
  replace Q0 := Q0.up n2
  rw [z1] at C0
  have zq := C0.lt
  have lg : 0 < b.length → g ≠ w.heap.size + 1 := fun h => by have := hr.lt h; omega
  have ST := hide (state_any _ (w.heap.size + 1) g a c b C0 (hr.up N) hb lg hc0 hc hl)
  have L1 := hide (dn1_is hb)
  have L2 := hide (dn2_is hb)
  clear n1 n2 z1 C0
  go_enter_defers Try.func32, Try.ntmps32
  go_wp2_with fail
  generalize (w.alloc (.cells #[.bool false, .slice none 0 0, .slice none 0 0, .int .i64 0, .int .i64 0, .string ⟨#[]⟩, .string ⟨#[]⟩, .int .i64 0] 36)).alloc (.cells #[.slice a b.length c, .int .i64 0] 71) = v0 at *
  refine ST.out.mono ?_
  rintro e v1 ⟨h, K1⟩
  have z1 := K1.size
  replace N := N.trans (K1.below (B := w.heap.size) (by omega) (by omega))
  replace Q0 := Q0.kp K1 (by omega)
  clear ST K1
  rcases h with ⟨h0, gX, gY, rfl, BX, BY, yX, yY⟩ | ⟨h0, t, v, rfl⟩
  · have T0 : RwC (v1.alloc (.cells #[.slice (some ⟨gX, 0, none⟩) 32 32, .slice (some ⟨gY, 0, none⟩) 32 32, .int .i64 (dM b), .int .i64 (dL b), .string ⟨⟨dH b⟩⟩, .string ⟨⟨dP b⟩⟩, .int .i64 (dE b)] 28)) v1.heap.size [.slice (some ⟨gX, 0, none⟩) 32 32, .slice (some ⟨gY, 0, none⟩) 32 32, .int .i64 (dM b), .int .i64 (dL b), .string ⟨⟨dH b⟩⟩, .string ⟨⟨dP b⟩⟩, .int .i64 (dE b)] 28 := RwC.new v1 _ _
    have n3 : Below v1.heap.size v1 (v1.alloc (.cells #[.slice (some ⟨gX, 0, none⟩) 32 32, .slice (some ⟨gY, 0, none⟩) 32 32, .int .i64 (dM b), .int .i64 (dL b), .string ⟨⟨dH b⟩⟩, .string ⟨⟨dP b⟩⟩, .int .i64 (dE b)] 28)) := (Below.refl _ _).alloc (Nat.le_refl _) _
    have lX := BX.lt
    have lY := BY.lt
    have zt : v1.heap.size < (v1.alloc (.cells #[.slice (some ⟨gX, 0, none⟩) 32 32, .slice (some ⟨gY, 0, none⟩) 32 32, .int .i64 (dM b), .int .i64 (dL b), .string ⟨⟨dH b⟩⟩, .string ⟨⟨dP b⟩⟩, .int .i64 (dE b)] 28)).heap.size := T0.lt
    replace Q0 := Q0.up n3
    replace BX := BX.up n3
    replace BY := BY.up n3
    replace N := nxt N n3
    obtain ⟨q, hq⟩ : ∃ q, q = v1.heap.size := ⟨_, rfl⟩
    rw [← hq] at T0 zt
    have lqv : v1.heap.size ≤ q := Nat.le_of_eq hq.symm
    clear n3
    have DB := hide (dsB_form h0)
    have HL := hide (show (dH b).length ≤ 1048576 by rw [dH_len]; have := L1.out; omega)
    have PL := hide (show (dP b).length ≤ 1048576 by rw [dP_len]; have := L2.out; omega)
    have EN := hide (implEnS_any _ (dM b) (dL b) (dH b) (dP b) (dE b) gX (some ⟨gX, 0, none⟩) 32 (dX b) BX.own0.rd (fun h => nomatch h) gY (some ⟨gY, 0, none⟩) 32 (dY b) BY.own0.rd (fun h => nomatch h) HL.out PL.out)
    rw [dX_len, dY_len] at EN
    have BE : Hid (Byt (esA (dX b) (dY b) (dM b) (dL b) (dH b) (dP b) (dE b))) := byt_esA (tkB_byt hb 0 32) (tkB_byt hb 32 32) _ _ _ _ _
    generalize esA (dX b) (dY b) (dM b) (dL b) (dH b) (dP b) (dE b) = E at *
    clear HL PL L1 L2 h0
    have t0 : (v1.alloc (.cells #[.slice (some ⟨gX, 0, none⟩) 32 32, .slice (some ⟨gY, 0, none⟩) 32 32, .int .i64 (dM b), .int .i64 (dL b), .string ⟨⟨dH b⟩⟩, .string ⟨⟨dP b⟩⟩, .int .i64 (dE b)] 28)).cell? ⟨q, 0, none⟩ = some (.slice (some ⟨gX, 0, none⟩) 32 32) := T0.cell 0
    have t1 : (v1.alloc (.cells #[.slice (some ⟨gX, 0, none⟩) 32 32, .slice (some ⟨gY, 0, none⟩) 32 32, .int .i64 (dM b), .int .i64 (dL b), .string ⟨⟨dH b⟩⟩, .string ⟨⟨dP b⟩⟩, .int .i64 (dE b)] 28)).cell? ⟨q, 1, none⟩ = some (.slice (some ⟨gY, 0, none⟩) 32 32) := T0.cell 1
    have t2 : (v1.alloc (.cells #[.slice (some ⟨gX, 0, none⟩) 32 32, .slice (some ⟨gY, 0, none⟩) 32 32, .int .i64 (dM b), .int .i64 (dL b), .string ⟨⟨dH b⟩⟩, .string ⟨⟨dP b⟩⟩, .int .i64 (dE b)] 28)).cell? ⟨q, 2, none⟩ = some (.int .i64 (dM b)) := T0.cell 2
    have t3 : (v1.alloc (.cells #[.slice (some ⟨gX, 0, none⟩) 32 32, .slice (some ⟨gY, 0, none⟩) 32 32, .int .i64 (dM b), .int .i64 (dL b), .string ⟨⟨dH b⟩⟩, .string ⟨⟨dP b⟩⟩, .int .i64 (dE b)] 28)).cell? ⟨q, 3, none⟩ = some (.int .i64 (dL b)) := T0.cell 3
    have t4 : (v1.alloc (.cells #[.slice (some ⟨gX, 0, none⟩) 32 32, .slice (some ⟨gY, 0, none⟩) 32 32, .int .i64 (dM b), .int .i64 (dL b), .string ⟨⟨dH b⟩⟩, .string ⟨⟨dP b⟩⟩, .int .i64 (dE b)] 28)).cell? ⟨q, 4, none⟩ = some (.string ⟨⟨dH b⟩⟩) := T0.cell 4
    have t5 : (v1.alloc (.cells #[.slice (some ⟨gX, 0, none⟩) 32 32, .slice (some ⟨gY, 0, none⟩) 32 32, .int .i64 (dM b), .int .i64 (dL b), .string ⟨⟨dH b⟩⟩, .string ⟨⟨dP b⟩⟩, .int .i64 (dE b)] 28)).cell? ⟨q, 5, none⟩ = some (.string ⟨⟨dP b⟩⟩) := T0.cell 5
    have t6 : (v1.alloc (.cells #[.slice (some ⟨gX, 0, none⟩) 32 32, .slice (some ⟨gY, 0, none⟩) 32 32, .int .i64 (dM b), .int .i64 (dL b), .string ⟨⟨dH b⟩⟩, .string ⟨⟨dP b⟩⟩, .int .i64 (dE b)] 28)).cell? ⟨q, 6, none⟩ = some (.int .i64 (dE b)) := T0.cell 6
    go_wp2_with fail
    rw [← hq]
    clear hq
    generalize v1.alloc (.cells #[.slice (some ⟨gX, 0, none⟩) 32 32, .slice (some ⟨gY, 0, none⟩) 32 32, .int .i64 (dM b), .int .i64 (dL b), .string ⟨⟨dH b⟩⟩, .string ⟨⟨dP b⟩⟩, .int .i64 (dE b)] 28) = y1 at *
    refine EN.out.mono ?_
    rintro e y2 ⟨v2, rfl, R2, m2⟩
    obtain ⟨a2, c2, g2, rfl, D2, -, -, -⟩ := R2.rd
    have zz := m2.size
    replace N := nxt N m2
    replace Q0 := Q0.up m2
    replace BX := BX.up m2
    replace BY := BY.up m2
    replace T0 := T0.up m2
    have SA := hide (bytesEqual_any y2 g2 g a2 a c2 c E b D2 (hr.up N) BE.out hb)
    clear EN R2 m2 D2 BE t0 t1 t2 t3 t4 t5 t6
    go_wp2_with fail
    refine SA.out.mono ?_
    rintro e y3 ⟨rfl, h3⟩
    have h3 := h3.symm
    subst h3
    by_cases hE : E = b
    · have DG := hide (DB.out.trans (decide_eq_true hE))
      rw [decide_eq_true hE]
      clear SA DB hE
      have t0 : y2.cell? ⟨q, 0, none⟩ = some (.slice (some ⟨gX, 0, none⟩) 32 32) := T0.cell 0
      have t1 : y2.cell? ⟨q, 1, none⟩ = some (.slice (some ⟨gY, 0, none⟩) 32 32) := T0.cell 1
      have t2 : y2.cell? ⟨q, 2, none⟩ = some (.int .i64 (dM b)) := T0.cell 2
      have t3 : y2.cell? ⟨q, 3, none⟩ = some (.int .i64 (dL b)) := T0.cell 3
      have t4 : y2.cell? ⟨q, 4, none⟩ = some (.string ⟨⟨dH b⟩⟩) := T0.cell 4
      have t5 : y2.cell? ⟨q, 5, none⟩ = some (.string ⟨⟨dP b⟩⟩) := T0.cell 5
      have t6 : y2.cell? ⟨q, 6, none⟩ = some (.int .i64 (dE b)) := T0.cell 6
      have qc0 : y2.cell? ⟨w.heap.size, 0, none⟩ = some (.bool false) := Q0.cell 0
      have qf0 := Q0.free 0
      have qc1 : y2.cell? ⟨w.heap.size, 1, none⟩ = some (.slice none 0 0) := Q0.cell 1
      have qf1 := Q0.free 1
      have qc2 : y2.cell? ⟨w.heap.size, 2, none⟩ = some (.slice none 0 0) := Q0.cell 2
      have qf2 := Q0.free 2
      have qc3 : y2.cell? ⟨w.heap.size, 3, none⟩ = some (.int .i64 0) := Q0.cell 3
      have qf3 := Q0.free 3
      have qc4 : y2.cell? ⟨w.heap.size, 4, none⟩ = some (.int .i64 0) := Q0.cell 4
      have qf4 := Q0.free 4
      have qc5 : y2.cell? ⟨w.heap.size, 5, none⟩ = some (.string ⟨#[]⟩) := Q0.cell 5
      have qf5 := Q0.free 5
      have qc6 : y2.cell? ⟨w.heap.size, 6, none⟩ = some (.string ⟨#[]⟩) := Q0.cell 6
      have qf6 := Q0.free 6
      have qc7 : y2.cell? ⟨w.heap.size, 7, none⟩ = some (.int .i64 0) := Q0.cell 7
      have qf7 := Q0.free 7
      have RF : RwC ((((((((y2.setCell ⟨w.heap.size, 0, none⟩ (.bool true)).setCell ⟨w.heap.size, 1, none⟩ (.slice (some ⟨gX, 0, none⟩) 32 32)).setCell ⟨w.heap.size, 2, none⟩ (.slice (some ⟨gY, 0, none⟩) 32 32)).setCell ⟨w.heap.size, 3, none⟩ (.int .i64 (dM b))).setCell ⟨w.heap.size, 4, none⟩ (.int .i64 (dL b))).setCell ⟨w.heap.size, 5, none⟩ (.string ⟨⟨dH b⟩⟩)).setCell ⟨w.heap.size, 6, none⟩ (.string ⟨⟨dP b⟩⟩)).setCell ⟨w.heap.size, 7, none⟩ (.int .i64 (dE b))) w.heap.size [.bool true, .slice (some ⟨gX, 0, none⟩) 32 32, .slice (some ⟨gY, 0, none⟩) 32 32, .int .i64 (dM b), .int .i64 (dL b), .string ⟨⟨dH b⟩⟩, .string ⟨⟨dP b⟩⟩, .int .i64 (dE b)] 36 := ((((((((Q0.set 0 (.bool true)).set 1 (.slice (some ⟨gX, 0, none⟩) 32 32)).set 2 (.slice (some ⟨gY, 0, none⟩) 32 32)).set 3 (.int .i64 (dM b))).set 4 (.int .i64 (dL b))).set 5 (.string ⟨⟨dH b⟩⟩)).set 6 (.string ⟨⟨dP b⟩⟩)).set 7 (.int .i64 (dE b)))
      have OF : Only w.heap.size y2 ((((((((y2.setCell ⟨w.heap.size, 0, none⟩ (.bool true)).setCell ⟨w.heap.size, 1, none⟩ (.slice (some ⟨gX, 0, none⟩) 32 32)).setCell ⟨w.heap.size, 2, none⟩ (.slice (some ⟨gY, 0, none⟩) 32 32)).setCell ⟨w.heap.size, 3, none⟩ (.int .i64 (dM b))).setCell ⟨w.heap.size, 4, none⟩ (.int .i64 (dL b))).setCell ⟨w.heap.size, 5, none⟩ (.string ⟨⟨dH b⟩⟩)).setCell ⟨w.heap.size, 6, none⟩ (.string ⟨⟨dP b⟩⟩)).setCell ⟨w.heap.size, 7, none⟩ (.int .i64 (dE b))) := ((((((((Only.refl w.heap.size y2).trans (Only.setCell _ w.heap.size 0 _)).trans (Only.setCell _ w.heap.size 1 _)).trans (Only.setCell _ w.heap.size 2 _)).trans (Only.setCell _ w.heap.size 3 _)).trans (Only.setCell _ w.heap.size 4 _)).trans (Only.setCell _ w.heap.size 5 _)).trans (Only.setCell _ w.heap.size 6 _)).trans (Only.setCell _ w.heap.size 7 _)
      have NF := hide (N.trans (OF.below (B := w.heap.size) (Nat.le_refl _)))
      have BX2 := hide (BX.of_block (OF.block gX (by omega)))
      have BY2 := hide (BY.of_block (OF.block gY (by omega)))
      clear OF
      go_wp2
      generalize (((((((y2.setCell ⟨w.heap.size, 0, none⟩ (.bool true)).setCell ⟨w.heap.size, 1, none⟩ (.slice (some ⟨gX, 0, none⟩) 32 32)).setCell ⟨w.heap.size, 2, none⟩ (.slice (some ⟨gY, 0, none⟩) 32 32)).setCell ⟨w.heap.size, 3, none⟩ (.int .i64 (dM b))).setCell ⟨w.heap.size, 4, none⟩ (.int .i64 (dL b))).setCell ⟨w.heap.size, 5, none⟩ (.string ⟨⟨dH b⟩⟩)).setCell ⟨w.heap.size, 6, none⟩ (.string ⟨⟨dP b⟩⟩)).setCell ⟨w.heap.size, 7, none⟩ (.int .i64 (dE b)) = y4 at *
      refine leaves_cons (f := 51) (args := #[.pointer (some ⟨w.heap.size, 0, none⟩)]) (by simp) (by simp [go_sem]) ?_
      refine (dcCatch_idle _ _).mono ?_
      rintro e u' w4 ⟨rfl, rfl, h4⟩
      have h4 := h4.symm
      subst h4
      have RR := RF.rangeG
      show ∃ v, (results Try.f32 _).run Try.prog y4 = .ok v y4 ∧ (NewD w.heap.size y4 (.returned v) b ∧ Below w.heap.size w y4)
      exact ⟨_, results_cellD Try.results32 _ y4 w.heap.size _ dR rfl RR hdR hrowR iSr, NewD.good DG.out BX2.out BY2.out (by omega) (by omega) (by omega), NF.out⟩
    · have DG := hide (DB.out.trans (decide_eq_false hE))
      rw [decide_eq_false hE]
      clear SA DB hE
      go_wp2
      refine leaves_cons (f := 51) (args := #[.pointer (some ⟨w.heap.size, 0, none⟩)]) (by simp) (by simp [go_sem]) ?_
      refine (dcCatch_pan w.heap.size _ _ _ Q0).mono ?_
      rintro e u' w4 ⟨rfl, rfl, O4, T4⟩
      have RR := T4.rangeG
      have KF : w.heap.size + 1 < w4.heap.size := by rw [O4.size]; omega
      have NF := N.trans (O4.below (B := w.heap.size) (Nat.le_refl _))
      show ∃ v, (results Try.f32 _).run Try.prog w4 = .ok v w4 ∧ (NewD w.heap.size w4 (.returned v) b ∧ Below w.heap.size w w4)
      exact ⟨_, results_cellD Try.results32 _ w4 w.heap.size _ dR rfl RR hdR hrowR iSr, NewD.bad DG.out (g := w.heap.size) (g' := w.heap.size + 1) (by omega) (Nat.le_refl _) (by omega) (by omega) KF, NF⟩
  · have DG := hide (dsB_short h0)
    clear h0
    go_wp2
    refine leaves_cons (f := 51) (args := #[.pointer (some ⟨w.heap.size, 0, none⟩)]) (by simp) (by simp [go_sem]) ?_
    refine (dcCatch_pan w.heap.size _ _ _ Q0).mono ?_
    rintro e u' w4 ⟨rfl, rfl, O4, T4⟩
    have RR := T4.rangeG
    have KF : w.heap.size + 1 < w4.heap.size := by rw [O4.size]; omega
    have NF := N.trans (O4.below (B := w.heap.size) (Nat.le_refl _))
    show ∃ v, (results Try.f32 _).run Try.prog w4 = .ok v w4 ∧ (NewD w.heap.size w4 (.returned v) b ∧ Below w.heap.size w w4)
    exact ⟨_, results_cellD Try.results32 _ w4 w.heap.size _ dR rfl RR hdR hrowR iSr, NewD.bad DG.out (g := w.heap.size) (g' := w.heap.size + 1) (by omega) (Nat.le_refl _) (by omega) (by omega) KF, NF⟩
end Go.Proofs.Ytcljoaknaegpmaa

/-
  Regions by facts where a literal's row may get its mark: RegF, RgU, RgV over Gm (written by gens/rem.py).
-/
namespace Go.Proofs.Ytcljoaknaegpmaa.Mk
open Go Go.RowKit

/-- How many cells the literal's row has. -/
def LN : Nat := 6
/-- Memory grows; behind B a row of so many cells may get its mark. -/
structure Gm (B : Nat) (w w' : World) : Prop where
  os : w'.os = w.os
  tape : w'.tape = w.tape
  output : w'.output = w.output
  size : w.heap.size ≤ w'.heap.size
  block : ∀ k, k < w.heap.size → w'.heap[k]? = w.heap[k]? ∨ (B ≤ k ∧ ∃ cs t m m', cs.size = LN ∧ w.heap[k]? = some (.cells cs t m) ∧ w'.heap[k]? = some (.cells cs t m'))
theorem Gm.refl (B : Nat) (w : World) : Gm B w w := ⟨rfl, rfl, rfl, Nat.le_refl _, fun _ _ => .inl rfl⟩
theorem Gm.trans {B : Nat} {a b c : World} (h : Gm B a b) (k : Gm B b c) : Gm B a c := by
  refine ⟨k.os.trans h.os, k.tape.trans h.tape, k.output.trans h.output, Nat.le_trans h.size k.size, fun x hx => ?_⟩
  rcases h.block x hx with e | ⟨hB, cs, t, m, m', hs, e1, e2⟩
  · rcases k.block x (Nat.lt_of_lt_of_le hx h.size) with f | ⟨hB, cs, t, m, m', hs, f1, f2⟩
    · exact .inl (f.trans e)
    · exact .inr ⟨hB, cs, t, m, m', hs, e.symm.trans f1, f2⟩
  · rcases k.block x (Nat.lt_of_lt_of_le hx h.size) with f | ⟨_, cs', t', m1, m2, hs', f1, f2⟩
    · exact .inr ⟨hB, cs, t, m, m', hs, e1, f.trans e2⟩
    · rw [e2] at f1
      injection f1 with f1
      injection f1 with g1 g2 g3
      subst g1 g2
      exact .inr ⟨hB, cs, t, m, m2, hs, e1, f2⟩
theorem Gm.of_below {B : Nat} {w w' : World} (h : Below w.heap.size w w') : Gm B w w' := ⟨h.os, h.tape, h.output, h.size, fun k hk => .inl (h.block k hk)⟩
theorem Gm.drew {B : Nat} {a w : World} (h : Gm B a w) : Gm B a w.drew := h.trans (Gm.of_below (Below.refl _ _).drew)
theorem Gm.below {B : Nat} {w w' : World} (h : Gm B w w') (hB : B ≤ w.heap.size) : Below B w w' := ⟨h.os, h.tape, h.output, h.size, fun k hk => by
  rcases h.block k (by omega) with e | ⟨hB, _⟩
  · exact e
  · omega⟩
theorem Gm.below0 {w w' : World} (h : Gm w.heap.size w w') : Below w.heap.size w w' := h.below (Nat.le_refl _)
theorem Gm.cell {B : Nat} {w w' : World} (h : Gm B w w') {a : Addr} {v : Value} (hc : w.cell? a = some v) : w'.cell? a = some v := by
  have hl := block_lt_of_cell hc
  rcases h.block a.block hl with e | ⟨_, cs, t, m, m', _, e1, e2⟩
  · exact (World.cell?_of_block e).trans hc
  · simp only [World.cell?, e1] at hc
    simp only [World.cell?, e2]
    exact hc
theorem rd_gm {B : Nat} {w w' : World} {g : Nat} {a : Option Addr} {k : IntKind} {xs : List Int} (h : Rd w g a k xs) (n : Gm B w w') : Rd w' g a k xs := fun h0 => by
  obtain ⟨off, e, hc⟩ := h h0
  exact ⟨off, e, fun i hi => n.cell (hc i hi)⟩
/-- What is told of an operation's value; it lasts while the memory only grows. -/
structure Fact where
  p : Value → World → Prop
  up : ∀ {B : Nat} {v : Value} {w w' : World}, Gm B w w' → p v w → p v w'

section
variable {P : Program} {ops : Array Oper} {Q : Exit → Act → World → Prop} {md : Region.Mode} {F : Nat → Fact} {a0 : Act} {w0 : World}

/-- No operation writes slot d. -/
def apart (ops : Array Oper) (d : Nat) : Bool := ops.all fun o => o.dst != some d
/-- All slots that no operation writes are as they were. -/
def Based (ops : Array Oper) (a0 a : Act) : Prop := a.defers = a0.defers ∧ a.tmps.size = a0.tmps.size ∧ ∀ d, apart ops d = true → a.tmps.getD d undef = a0.tmps.getD d undef
/-- Number i waits for number j, which writes slot d. -/
def waits (md : Region.Mode) (ops : Array Oper) (i j d : Nat) : Bool :=
  match ops[i]?, ops[j]? with
  | some o, some oj => o.after.any (fun e => Region.binds md e && e.on == j) && oj.dst == some d
  | _, _ => false
/-- What the law asks of the region's text; n: how many slots; k: the number of the one that is looked at last, or behind the end. -/
def textOk (md : Region.Mode) (ops : Array Oper) (n k : Nat) : Bool :=
  (ops.all fun o => o.guard.isNone && (match o.dst with | some d => decide (d < n) | none => true))
  && ((List.range ops.size).all fun i => match ops[i]? with
    | some o => o.after.all (fun e => !Region.binds md e || decide (e.on < i)) && (List.range i).all fun j => match ops[j]? with
      | some x => x.dst.isNone || o.dst != x.dst
      | none => true
    | none => true)
  && decide (k ≤ ops.size ∧ ops.size ≤ k + 1)
  && (k == ops.size || (List.range k).all fun j => (List.range (k + 1)).any fun m => decide (j < m) && match ops[m]? with
    | some o => o.after.any (fun e => Region.binds md e && e.on == j)
    | none => false)

/-- What holds while the region is under way. -/
structure Held (md : Region.Mode) (ops : Array Oper) (F : Nat → Fact) (a0 : Act) (w0 : World) (listed : Array Bool) (a : Act) (w : World) : Prop where
  b : Based ops a0 a
  n : Gm w0.heap.size w0 w
  f : ∀ i o d, ops[i]? = some o → listed.getD i false = true → o.dst = some d → (F i).p (a.tmps.getD d undef) w
  c : ∀ i o, ops[i]? = some o → listed.getD i false = true → ∀ e ∈ o.after, Region.binds md e = true → listed.getD e.on false = true
  s : listed.size = ops.size

/-- One operation, with the facts of those that it waits for. -/
def StepOk (P : Program) (md : Region.Mode) (ops : Array Oper) (Q : Exit → Act → World → Prop) (F : Nat → Fact) (a0 : Act) (w0 : World) (i : Nat) : Prop :=
  ∀ o, ops[i]? = some o → ∀ a w, Based ops a0 a → Gm w0.heap.size w0 w → (∀ j d, waits md ops i j d = true → (F j).p (a.tmps.getD d undef) w) →
    ∀ K : Act → World → Prop, (∀ v w', Gm w0.heap.size w w' → (F i).p v w' → K (a.put o.dst v) w') → o.wp P a w K Q

/-- How many have not come up. -/
def left (listed : Array Bool) : Nat → Nat
  | 0 => 0
  | n + 1 => left listed n + if listed.getD n true = false then 1 else 0
theorem left_zero {listed : Array Bool} : ∀ {n : Nat}, left listed n = 0 → ∀ i, i < n → listed.getD i true = true
  | 0, _, i, hi => by omega
  | n + 1, h, i, hi => by
    unfold left at h
    rcases Nat.lt_or_ge i n with h1 | h1
    · exact left_zero (by omega) i h1
    · obtain rfl : i = n := by omega
      cases hc : listed.getD i true
      · rw [hc] at h; simp at h
      · rfl
theorem getD_same {listed : Array Bool} {i : Nat} (h : i < listed.size) (d : Bool) : (listed.setIfInBounds i true).getD i d = true := by
  simp [Array.getD_eq_getD_getElem?, h]
theorem getD_off {listed : Array Bool} {i j : Nat} (h : i ≠ j) (d : Bool) : (listed.setIfInBounds i true).getD j d = listed.getD j d := by
  simp [Array.getD_eq_getD_getElem?, h]
theorem left_le {listed : Array Bool} {i : Nat} (hi : i < listed.size) : ∀ n, left (listed.setIfInBounds i true) n ≤ left listed n
  | 0 => Nat.le_refl _
  | n + 1 => by
    unfold left
    have h := left_le hi n
    by_cases e : i = n
    · subst e
      rw [getD_same hi]
      simp
      omega
    · rw [getD_off e]
      omega
theorem left_set {listed : Array Bool} {i : Nat} (hs : i < listed.size) (h : listed.getD i true = false) : ∀ n, i < n → left (listed.setIfInBounds i true) n + 1 ≤ left listed n
  | 0, hi => by omega
  | n + 1, hi => by
    unfold left
    by_cases e : i = n
    · subst e
      rw [getD_same hs, h]
      have := left_le hs i
      simp
      omega
    · rw [getD_off e]
      have := left_set hs h n (by omega)
      omega
theorem dflt {listed : Array Bool} {i : Nat} (h : i < listed.size) : listed.getD i true = listed.getD i false := by
  simp [Array.getD_eq_getD_getElem?, h]

theorem put_at {a : Act} {d : Nat} {v : Value} (h : d < a.tmps.size) : (a.put (some d) v).tmps.getD d undef = v := by
  simp [Act.put, Array.getD_eq_getD_getElem?, h]
theorem put_off {a : Act} {dst : Option Tmp} {d : Nat} {v : Value} (h : dst ≠ some d) : (a.put dst v).tmps.getD d undef = a.tmps.getD d undef := by
  cases dst with
  | none => rfl
  | some e =>
    have : e ≠ d := fun x => h (by rw [x])
    simp [Act.put, Array.getD_eq_getD_getElem?, this]
theorem put_size (a : Act) (dst : Option Tmp) (v : Value) : (a.put dst v).tmps.size = a.tmps.size := by
  cases dst <;> simp [Act.put]
theorem put_defers (a : Act) (dst : Option Tmp) (v : Value) : (a.put dst v).defers = a.defers := by
  cases dst <;> rfl

/-- What the look at the text gives. -/
structure Text (md : Region.Mode) (ops : Array Oper) (n k : Nat) : Prop where
  g : ∀ (i : Nat) o, ops[i]? = some o → o.guard = none
  d : ∀ (i : Nat) o d, ops[i]? = some o → o.dst = some d → d < n
  a : ∀ (i : Nat) o, ops[i]? = some o → ∀ e ∈ o.after, Region.binds md e = true → e.on < i
  x : ∀ (i j : Nat) o o' d, ops[i]? = some o → ops[j]? = some o' → i ≠ j → o.dst = some d → o'.dst ≠ some d
  k1 : k ≤ ops.size
  k2 : ops.size ≤ k + 1
  c : k < ops.size → ∀ j, j < k → ∃ (m : Nat) (o : Oper), j < m ∧ m ≤ k ∧ ops[m]? = some o ∧ ∃ e ∈ o.after, Region.binds md e = true ∧ e.on = j
theorem text_of {n k : Nat} (h : textOk md ops n k = true) : Text md ops n k := by
  unfold textOk at h
  simp only [Bool.and_eq_true, decide_eq_true_eq] at h
  obtain ⟨⟨⟨h1, h2⟩, h3⟩, h4⟩ := h
  rw [Array.all_eq_true_iff_forall_mem] at h1
  rw [List.all_eq_true] at h2
  have H : ∀ (i j : Nat) o o' d, j < i → ops[i]? = some o → ops[j]? = some o' → o.dst = some d → o'.dst ≠ some d := by
    intro i j o o' d hij hi hj hd hd'
    have q := h2 i (List.mem_range.2 (Array.getElem?_eq_some_iff.1 hi).1)
    simp only [hi, Bool.and_eq_true] at q
    have r := List.all_eq_true.1 q.2 j (List.mem_range.2 hij)
    simp only [hj, hd, hd'] at r
    simp at r
  refine ⟨?_, ?_, ?_, ?_, h3.1, h3.2, ?_⟩
  · intro i o ho
    have q := h1 o (Array.mem_of_getElem? ho)
    simp only [Bool.and_eq_true] at q
    exact Option.isNone_iff_eq_none.1 q.1
  · intro i o d ho hd
    have q := h1 o (Array.mem_of_getElem? ho)
    simp only [Bool.and_eq_true, hd, decide_eq_true_eq] at q
    exact q.2
  · intro i o ho e he hb
    have q := h2 i (List.mem_range.2 (Array.getElem?_eq_some_iff.1 ho).1)
    simp only [ho, Bool.and_eq_true] at q
    have r := (Array.all_eq_true_iff_forall_mem.1 q.1) e he
    rw [hb] at r
    simpa using r
  · intro i j o o' d hi hj hij hd hd'
    rcases Nat.lt_or_gt_of_ne hij with h | h
    · exact H j i o' o d h hj hi hd' hd
    · exact H i j o o' d h hi hj hd hd'
  · intro hk j hj
    have h4' : ((List.range k).all fun j => (List.range (k + 1)).any fun m => decide (j < m) && match ops[m]? with
        | some o => o.after.any (fun e => Region.binds md e && e.on == j)
        | none => false) = true := by
      rcases Bool.or_eq_true _ _ ▸ h4 with q | q
      · simp at q; omega
      · exact q
    have q := List.all_eq_true.1 h4' j (List.mem_range.2 hj)
    obtain ⟨m, hm, r⟩ := List.any_eq_true.1 q
    simp only [Bool.and_eq_true, decide_eq_true_eq] at r
    cases ho : ops[m]? with
    | none => rw [ho] at r; simp at r
    | some o =>
      rw [ho] at r
      obtain ⟨e, he, hb⟩ := Array.any_eq_true'.1 r.2
      simp only [Bool.and_eq_true, beq_iff_eq] at hb
      exact ⟨m, o, r.1, by have := List.mem_range.1 hm; omega, ho, e, he, hb.1, hb.2⟩

theorem all_listed {n k : Nat} (T : Text md ops n k) {listed : Array Bool} (hs : listed.size = ops.size) (h : Region.ready md ops listed = []) : ∀ m i, i < m → i < ops.size → listed.getD i false = true
  | 0, i, hi, _ => by omega
  | m + 1, i, hi, hl => by
    rcases Nat.lt_or_ge i m with h1 | h1
    · exact all_listed T hs h m i h1 hl
    · obtain rfl : i = m := by omega
      cases hc : listed.getD i false
      · exfalso
        obtain ⟨o, ho⟩ : ∃ o, ops[i]? = some o := ⟨ops[i], by simp [hl]⟩
        have hr : i ∈ Region.ready md ops listed := mem_ready.2 ⟨by rw [dflt (by omega)]; exact hc, o, ho, fun e he hb => all_listed T hs h i e.on (T.a i o ho e he hb) (by have := T.a i o ho e he hb; omega)⟩
        rw [h] at hr
        simp at hr
      · rfl
/-- Behind the one that is looked at last stand all others. -/
theorem all_ahead {n k : Nat} (T : Text md ops n k) (hk : k < ops.size) {listed : Array Bool} {a : Act} {w : World} (H : Held md ops F a0 w0 listed a w)
    (hr : k ∈ Region.ready md ops listed) : ∀ m j, k - j ≤ m → j < k → listed.getD j false = true
  | 0, j, hm, hj => by omega
  | m + 1, j, hm, hj => by
    obtain ⟨p, o, hjp, hpk, ho, e, he, hb, rfl⟩ := T.c hk j hj
    rcases Nat.lt_or_ge p k with h1 | h1
    · exact H.c p o ho (all_ahead T hk H hr m p (by omega) h1) e he hb
    · obtain rfl : p = k := by omega
      obtain ⟨_, o', ho', q⟩ := mem_ready.1 hr
      obtain rfl := Option.some.inj (ho.symm.trans ho')
      exact q e he hb

theorem Held.next {n k : Nat} (T : Text md ops n k) (hn : n ≤ a0.tmps.size) {listed : Array Bool} {a : Act} {w : World} (H : Held md ops F a0 w0 listed a w) {i : Nat} {o : Oper} (ho : ops[i]? = some o) (hr : i ∈ Region.ready md ops listed)
    {v : Value} {w' : World} (hw : Gm w0.heap.size w w') (hf : (F i).p v w') : Held md ops F a0 w0 (listed.setIfInBounds i true) (a.put o.dst v) w' := by
  have hi : i < ops.size := (Array.getElem?_eq_some_iff.1 ho).1
  have hz : a.tmps.size = a0.tmps.size := H.b.2.1
  refine ⟨⟨by rw [put_defers]; exact H.b.1, by rw [put_size]; exact hz, fun d hd => ?_⟩, Gm.trans H.n hw, ?_, ?_, by simp [H.s]⟩
  · rw [put_off]
    · exact H.b.2.2 d hd
    · have q := Array.all_eq_true_iff_forall_mem.1 hd o (Array.mem_of_getElem? ho)
      simpa using q
  · intro j oj d hoj hj hd
    by_cases e : i = j
    · subst e
      obtain rfl := Option.some.inj (ho.symm.trans hoj)
      rw [hd, put_at (Nat.lt_of_lt_of_le (T.d i o d ho hd) (hz ▸ hn))]
      exact hf
    · rw [getD_off e] at hj
      rw [put_off (T.x j i oj o d hoj ho (Ne.symm e) hd)]
      exact (F j).up hw (H.f j oj d hoj hj hd)
  · intro j oj hoj hj e he hb
    obtain ⟨_, o', ho', q⟩ := mem_ready.1 hr
    by_cases c : i = e.on
    · rw [← c]
      exact getD_same (by rw [H.s]; exact hi) _
    · rw [getD_off c]
      by_cases e' : i = j
      · subst e'
        obtain rfl := Option.some.inj (ho'.symm.trans hoj)
        exact q e he hb
      · rw [getD_off e'] at hj
        exact H.c j oj hoj hj e he hb

theorem any_facts {n k : Nat} (T : Text md ops n k) (hn : n ≤ a0.tmps.size) (steps : ∀ i, i < k → StepOk P md ops Q F a0 w0 i)
    (fin : ∀ a w, Based ops a0 a → Gm w0.heap.size w0 w → (∀ i o d, i < k → ops[i]? = some o → o.dst = some d → (F i).p (a.tmps.getD d undef) w) →
      match ops[k]? with
      | none => Q .normal a w
      | some o => o.wp P a w (fun a' w' => Q .normal a' w') Q) :
    ∀ (fuel : Nat) (listed : Array Bool) (a : Act) (w : World), left listed ops.size ≤ fuel → Held md ops F a0 w0 listed a w → listed.getD k false = false → wpAny P md ops Q fuel listed a w := by
  intro fuel
  induction fuel with
  | zero =>
    intro listed a w hl H hk
    have hall : ∀ i, i < ops.size → listed.getD i false = true := fun i hi => by
      rw [← dflt (by rw [H.s]; exact hi)]
      exact left_zero (n := ops.size) (by omega) i hi
    have hke : ops[k]? = none := by
      rcases Nat.lt_or_ge k ops.size with h | h
      · rw [hall k h] at hk; simp at hk
      · simp [h]
    have q := fin a w H.b H.n (fun i o d _ ho hd => H.f i o d ho (hall i (Array.getElem?_eq_some_iff.1 ho).1) hd)
    rw [hke] at q
    refine ⟨?_, q⟩
    cases hr : Region.ready md ops listed with
    | nil => rfl
    | cons i t =>
      have hi : i ∈ Region.ready md ops listed := by rw [hr]; simp
      obtain ⟨h0, o, ho, _⟩ := mem_ready.1 hi
      have hlt := (Array.getElem?_eq_some_iff.1 ho).1
      rw [dflt (by rw [H.s]; exact hlt), hall i hlt] at h0
      simp at h0
  | succ fuel ih =>
    intro listed a w hl H hk
    refine ⟨fun hr => ?_, fun i hi => ?_⟩
    · have hall : ∀ i, i < ops.size → listed.getD i false = true := fun i hi => all_listed T H.s hr (i + 1) i (by omega) hi
      have hke : ops[k]? = none := by
        rcases Nat.lt_or_ge k ops.size with h | h
        · rw [hall k h] at hk; simp at hk
        · simp [h]
      have q := fin a w H.b H.n (fun i o d _ ho hd => H.f i o d ho (hall i (Array.getElem?_eq_some_iff.1 ho).1) hd)
      rw [hke] at q
      exact q
    · obtain ⟨h0, o, ho, hall⟩ := mem_ready.1 hi
      have hlt := (Array.getElem?_eq_some_iff.1 ho).1
      have hwant : Region.wanted o (yielded ops a.tmps) = true := by simp [Region.wanted, T.g i o ho]
      refine wpOp_step ho fun K' hK => ?_
      rw [if_pos hwant]
      have hll := left_set (by rw [H.s]; exact hlt) h0 ops.size hlt
      rcases Nat.lt_or_ge i k with h1 | h1
      · refine steps i h1 o ho a w H.b H.n ?_ K' ?_
        · intro j d hjd
          unfold waits at hjd
          rw [ho] at hjd
          cases hoj : ops[j]? with
          | none => rw [hoj] at hjd; simp at hjd
          | some oj =>
            rw [hoj] at hjd
            simp only [Bool.and_eq_true, beq_iff_eq] at hjd
            obtain ⟨e, he, hb⟩ := Array.any_eq_true'.1 hjd.1
            simp only [Bool.and_eq_true, beq_iff_eq] at hb
            exact H.f j oj d hoj (by rw [← hb.2]; exact hall e he hb.1) hjd.2
        · intro v w' hw hf
          refine hK _ _ (ih _ _ _ (by omega) (H.next T hn ho hi hw hf) ?_)
          rw [getD_off (by omega)]
          exact hk
      · obtain rfl : i = k := by have := T.k2; omega
        have hahead := all_ahead T hlt H hi
        have q := fin a w H.b H.n (fun j oj d hj hoj hd => H.f j oj d hoj (hahead (i - j) j (Nat.le_refl _) hj) hd)
        rw [ho] at q
        refine Oper.wp_mono (fun a' w' h => hK _ _ (wpAny_done ?_ h fuel)) q
        cases hr : Region.ready md ops (listed.setIfInBounds i true) with
        | nil => rfl
        | cons j t =>
          exfalso
          have hj : j ∈ Region.ready md ops (listed.setIfInBounds i true) := by rw [hr]; simp
          obtain ⟨g0, oj, hoj, _⟩ := mem_ready.1 hj
          have hjl := (Array.getElem?_eq_some_iff.1 hoj).1
          by_cases e : i = j
          · subst e
            rw [getD_same (by rw [H.s]; exact hlt)] at g0
            simp at g0
          · rw [getD_off e, dflt (by rw [H.s]; exact hjl), hahead (i - j) j (Nat.le_refl _) (by have := T.k2; omega)] at g0
            simp at g0

/-- The same for a region that goes in its text's order. -/
theorem line_facts {n k : Nat} (T : Text md ops n k) (hn : n ≤ a0.tmps.size) (steps : ∀ i, i < k → StepOk P md ops Q F a0 w0 i)
    (fin : ∀ a w, Based ops a0 a → Gm w0.heap.size w0 w → (∀ i o d, i < k → ops[i]? = some o → o.dst = some d → (F i).p (a.tmps.getD d undef) w) →
      match ops[k]? with
      | none => Q .normal a w
      | some o => o.wp P a w (fun a' w' => Q .normal a' w') Q) :
    ∀ (m i : Nat) (a : Act) (w : World), i + m = ops.size → i ≤ k → Based ops a0 a → Gm w0.heap.size w0 w → (∀ j o d, j < i → ops[j]? = some o → o.dst = some d → (F j).p (a.tmps.getD d undef) w) →
      wpOps P ops Q (List.range' i m) a w := by
  intro m
  induction m with
  | zero =>
    intro i a w him hik hb hw hf
    obtain rfl : i = k := by have := T.k1; omega
    have q := fin a w hb hw hf
    rw [show ops[i]? = none by simp; omega] at q
    exact q
  | succ m ih =>
    intro i a w him hik hb hw hf
    have hlt : i < ops.size := by omega
    obtain ⟨o, ho⟩ : ∃ o, ops[i]? = some o := ⟨ops[i], by simp [hlt]⟩
    have hwant : Region.wanted o (yielded ops a.tmps) = true := by simp [Region.wanted, T.g i o ho]
    rw [List.range'_succ, wpOps_cons]
    refine wpOp_step ho fun K' hK => ?_
    rw [if_pos hwant]
    rcases Nat.lt_or_ge i k with h1 | h1
    · refine steps i h1 o ho a w hb hw ?_ K' ?_
      · intro j d hjd
        unfold waits at hjd
        rw [ho] at hjd
        cases hoj : ops[j]? with
        | none => rw [hoj] at hjd; simp at hjd
        | some oj =>
          rw [hoj] at hjd
          simp only [Bool.and_eq_true, beq_iff_eq] at hjd
          obtain ⟨e, he, hb⟩ := Array.any_eq_true'.1 hjd.1
          simp only [Bool.and_eq_true, beq_iff_eq] at hb
          exact hf j oj d (by rw [← hb.2]; exact T.a i o ho e he hb.1) hoj hjd.2
      · intro v w' hw' hfv
        refine hK _ _ (ih (i + 1) _ _ (by omega) (by omega) ⟨by rw [put_defers]; exact hb.1, by rw [put_size]; exact hb.2.1, fun d hd => ?_⟩ (Gm.trans hw hw') ?_)
        · rw [put_off]
          · exact hb.2.2 d hd
          · have q := Array.all_eq_true_iff_forall_mem.1 hd o (Array.mem_of_getElem? ho)
            simpa using q
        · intro j oj d hj hoj hd
          by_cases e : i = j
          · subst e
            obtain rfl := Option.some.inj (ho.symm.trans hoj)
            rw [hd, put_at (Nat.lt_of_lt_of_le (T.d i o d ho hd) (by rw [hb.2.1]; exact hn))]
            exact hfv
          · rw [put_off (T.x j i oj o d hoj ho (Ne.symm e) hd)]
            exact (F j).up hw' (hf j oj d (by omega) hoj hd)
    · obtain rfl : i = k := by omega
      have q := fin a w hb hw hf
      rw [ho] at q
      refine Oper.wp_mono (fun a' w' h => hK _ _ ?_) q
      obtain rfl : m = 0 := by have := T.k2; omega
      exact h
/-- The law, whatever the region's kind. -/
theorem region_facts {id : Nat} {w : World} {draw : Bool} (k : Nat) (F : Nat → Fact) (hm : P.follows .mixedOrders = true) (hT : textOk .any ops a0.tmps.size k = true) (steps : ∀ i, i < k → StepOk P .any ops Q F a0 w i)
    (fin : ∀ a w', Based ops a0 a → Gm w.heap.size w w' → (∀ i o d, i < k → ops[i]? = some o → o.dst = some d → (F i).p (a.tmps.getD d undef) w') →
      match ops[k]? with
      | none => Q .normal a w'
      | some o => o.wp P a w' (fun a' w'' => Q .normal a' w'') Q) : (Code.region id ops draw).wp P Q a0 w := by
  have T := text_of hT
  cases draw with
  | false =>
    refine wp_region ?_
    have h := line_facts (w0 := w) T (Nat.le_refl _) steps fin ops.size 0 a0 w (by omega) (by omega) ⟨rfl, rfl, fun _ _ => rfl⟩ (Gm.refl _ _) (fun j o d hj => by omega)
    rw [List.range_eq_range']
    exact h
  | true =>
    refine wp_region_any hm ?_
    refine any_facts (w0 := w) T (Nat.le_refl _) steps fin ops.size _ a0 _ ?_ ⟨⟨rfl, rfl, fun _ _ => rfl⟩, (Gm.refl _ _).drew, ?_, ?_, by simp⟩ ?_
    · have : ∀ m, left (Array.replicate ops.size false) m ≤ m := by
        intro m
        induction m with
        | zero => exact Nat.le_refl _
        | succ m ih => unfold left; split <;> omega
      exact this _
    · intro i o d ho hl _
      rw [Array.getD_eq_getD_getElem?, Array.getElem?_replicate] at hl
      split at hl <;> simp at hl
    · intro i o ho hl
      rw [Array.getD_eq_getD_getElem?, Array.getElem?_replicate] at hl
      split at hl <;> simp at hl
    · rw [Array.getD_eq_getD_getElem?, Array.getElem?_replicate]
      split <;> rfl
/-- Number i writes slot d. -/
def writes (ops : Array Oper) (i d : Nat) : Bool :=
  match ops[i]? with
  | some o => o.dst == some d
  | none => false
/-- What all of them have left. -/
def Full (ops : Array Oper) (F : Nat → Fact) (a : Act) (w : World) : Prop := ∀ i d, writes ops i d = true → (F i).p (a.tmps.getD d undef) w
/-- A region that ends with a store. -/
theorem region_store {id : Nat} {w : World} {draw : Bool} (k : Nat) (o : Oper) (F : Nat → Fact) (hm : P.follows .mixedOrders = true) (hT : textOk .any ops a0.tmps.size k = true) (hk : ops[k]? = some o) (hd : o.dst = none) (steps : ∀ i, i < k → StepOk P .any ops Q F a0 w i)
    (fin : ∀ a w', Based ops a0 a → Gm w.heap.size w w' → Full ops F a w' → o.wp P a w' (fun a' w'' => Q .normal a' w'') Q) : (Code.region id ops draw).wp P Q a0 w := by
  refine region_facts k F hm hT steps fun a w' hb hw hf => ?_
  rw [hk]
  refine fin a w' hb hw fun i d hi => ?_
  unfold writes at hi
  cases ho : ops[i]? with
  | none => rw [ho] at hi; simp at hi
  | some oi =>
    rw [ho] at hi
    have hi' : oi.dst = some d := by simpa using hi
    have T := text_of hT
    refine hf i oi d ?_ ho hi'
    have h1 := (Array.getElem?_eq_some_iff.1 ho).1
    have h2 := T.k2
    rcases Nat.lt_or_ge i k with h | h
    · exact h
    · obtain rfl : i = k := by omega
      obtain rfl := Option.some.inj (hk.symm.trans ho)
      rw [hd] at hi'
      simp at hi'
/-- A region without one. -/
theorem region_end {id : Nat} {w : World} {draw : Bool} (k : Nat) (F : Nat → Fact) (hm : P.follows .mixedOrders = true) (hT : textOk .any ops a0.tmps.size k = true) (hk : ops[k]? = none) (steps : ∀ i, i < k → StepOk P .any ops Q F a0 w i)
    (fin : ∀ a w', Based ops a0 a → Gm w.heap.size w w' → Full ops F a w' → Q .normal a w') : (Code.region id ops draw).wp P Q a0 w := by
  refine region_facts k F hm hT steps fun a w' hb hw hf => ?_
  rw [hk]
  refine fin a w' hb hw fun i d hi => ?_
  unfold writes at hi
  cases ho : ops[i]? with
  | none => rw [ho] at hi; simp at hi
  | some oi =>
    rw [ho] at hi
    have h1 := (Array.getElem?_eq_some_iff.1 ho).1
    have h2 : ops.size ≤ k := by simpa using hk
    exact hf i oi d (by omega) ho (by simpa using hi)

/-- The frame behind the region, written out. -/
def puts (vs : Nat → Value) (a0 : Act) : List Oper → Act
  | [] => a0
  | o :: rest => match o.dst with
    | some d => puts vs (a0.put (some d) (vs d)) rest
    | none => puts vs a0 rest
theorem puts_size (vs : Nat → Value) : ∀ (l : List Oper) (a : Act), (puts vs a l).tmps.size = a.tmps.size ∧ (puts vs a l).defers = a.defers
  | [], _ => ⟨rfl, rfl⟩
  | o :: rest, a => by
    unfold puts
    cases o.dst with
    | none => exact puts_size vs rest a
    | some d =>
      have := puts_size vs rest (a.put (some d) (vs d))
      exact ⟨this.1.trans (put_size _ _ _), this.2.trans (put_defers _ _ _)⟩
theorem puts_get (vs : Nat → Value) (d : Nat) : ∀ (l : List Oper) (a : Act), (∀ o ∈ l, ∀ e, o.dst = some e → e < a.tmps.size) → (puts vs a l).tmps.getD d undef = if l.any (fun o => o.dst == some d) then vs d else a.tmps.getD d undef
  | [], _, _ => by simp [puts]
  | o :: rest, a, h => by
    unfold puts
    cases ho : o.dst with
    | none =>
      rw [puts_get vs d rest a (fun o' h' => h o' (List.mem_cons_of_mem _ h'))]
      simp [ho]
    | some e =>
      have he := h o (List.mem_cons_self) e ho
      simp only
      rw [puts_get vs d rest _ (fun o' h' => by rw [put_size]; exact h o' (List.mem_cons_of_mem _ h'))]
      by_cases c : e = d
      · subst c
        rw [put_at he]
        simp [ho]
      · rw [put_off (by simpa using c)]
        simp [ho, c]
theorem puts_of {n k : Nat} (hT : textOk md ops n k = true) (hn : n = a0.tmps.size) {a : Act} (hb : Based ops a0 a) (vs : Nat → Value) (hv : ∀ d, a.tmps.getD d undef = vs d) : a = puts vs a0 ops.toList := by
  have T := text_of hT
  have hin : ∀ o ∈ ops.toList, ∀ e, o.dst = some e → e < a0.tmps.size := fun o ho e he => by
    obtain ⟨i, hi⟩ := List.getElem?_of_mem ho
    have := T.d i o e (by simpa using hi) he
    rw [hn] at this
    exact this
  obtain ⟨s1, s2⟩ := puts_size vs ops.toList a0
  obtain ⟨ta, da⟩ := a
  obtain ⟨h1, h2, h3⟩ := hb
  have e1 : ta = (puts vs a0 ops.toList).tmps := by
    apply Array.ext
    · rw [s1]; exact h2
    · intro i hi hi'
      have g := puts_get vs i ops.toList a0 hin
      have l : ta[i] = ta.getD i undef := by simp [Array.getD_eq_getD_getElem?, hi]
      have r : (puts vs a0 ops.toList).tmps[i] = (puts vs a0 ops.toList).tmps.getD i undef := by simp only [Array.getD_eq_getD_getElem?, Array.getElem?_eq_getElem hi', Option.getD_some]
      rw [l, r, g]
      by_cases c : ops.toList.any (fun o => o.dst == some i) = true
      · rw [if_pos c]; exact hv i
      · rw [if_neg c]
        refine h3 i ?_
        unfold apart
        rw [Array.all_eq_true_iff_forall_mem]
        intro o ho
        have hne : ¬ (o.dst == some i) = true := fun x => c (List.any_eq_true.2 ⟨o, by simpa using ho, x⟩)
        simpa using hne
  have e2 : da = (puts vs a0 ops.toList).defers := h1.trans s2.symm
  subst e1
  subst e2
  rfl
end
def Fact.eq (v0 : Value) : Fact := ⟨fun v _ => v = v0, fun _ h => h⟩
def Fact.no : Fact := ⟨fun _ _ => True, fun _ h => h⟩

section
variable {P : Program} {ops : Array Oper} {Q : Exit → Act → World → Prop} {md : Region.Mode} {F : Nat → Fact} {a0 : Act} {w0 : World}
def Facts (md : Region.Mode) (ops : Array Oper) (F : Nat → Fact) (i : Nat) (a : Act) (w : World) : Prop := ∀ j d, waits md ops i j d = true → (F j).p (a.tmps.getD d undef) w
theorem step_pure {i : Nat} {o : Oper} (hi : ops[i]? = some o)
    (G : ∀ a w, Based ops a0 a → Gm w0.heap.size w0 w → Facts md ops F i a w → ∃ v, (execOp a.eval o).run P w = .ok (.value v) w ∧ (F i).p v w) : StepOk P md ops Q F a0 w0 i := by
  intro o' ho' a w hb hw hf K hK
  obtain rfl := Option.some.inj (hi.symm.trans ho')
  obtain ⟨v, hr, hv⟩ := G a w hb hw hf
  unfold Oper.wp
  rw [hr]
  exact hK v w (Gm.refl _ _) hv
/-- Something is made. -/
theorem step_grow {i : Nat} {o : Oper} (hi : ops[i]? = some o)
    (G : ∀ a w, Based ops a0 a → Gm w0.heap.size w0 w → Facts md ops F i a w → ∃ v w', (execOp a.eval o).run P w = .ok (.value v) w' ∧ Gm w0.heap.size w w' ∧ (F i).p v w') : StepOk P md ops Q F a0 w0 i := by
  intro o' ho' a w hb hw hf K hK
  obtain rfl := Option.some.inj (hi.symm.trans ho')
  obtain ⟨v, w', hr, hn, hv⟩ := G a w hb hw hf
  unfold Oper.wp
  rw [hr]
  exact hK v w' hn hv
theorem step_load {i : Nat} {o : Oper} (hi : ops[i]? = some o) (ty : TypeId) (x : Operand) (hop : o.op = .load ty x) (d : TypeDesc) (n : Nat) (hu : P.underlying ty = some d) (hd : d.isRow = true) (hs : (P.info? ty).map (·.size) = some n)
    (G : ∀ a w, Based ops a0 a → Gm w0.heap.size w0 w → Facts md ops F i a w → ∃ b off cs, a.eval x = .pointer (some ⟨b, off, none⟩) ∧ w.rangeAt b off cs ∧ cs.length = n ∧ (F i).p (.agg cs.toArray) w) : StepOk P md ops Q F a0 w0 i := by
  intro o' ho' a w hb hw hf K hK
  obtain rfl := Option.some.inj (hi.symm.trans ho')
  obtain ⟨b, off, cs, hx, hc, hl, hv⟩ := G a w hb hw hf
  exact wp_load_mid ty x hop b off hx cs d hc hu hd (by rw [hl]; exact hs) (hK _ _ (Gm.refl _ _) hv)
/-- A function of the program with a body. -/
def enters (P : Program) (n : FuncId) : Bool :=
  match P.funcs[n]? with
  | some fn => !(fn.name == "runtime.NumGoroutine") && fn.body.isSome
  | none => false
theorem run_enter {n : FuncId} (h : enters P n = true) (args : Array Value) (w : World) : (callFunc n args).run P w = .ok (.enter n args) w := by
  unfold enters at h
  cases hq : P.funcs[n]? with
  | none => rw [hq] at h; simp at h
  | some fn =>
    rw [hq] at h
    simp only [Bool.and_eq_true, Bool.not_eq_true'] at h
    have h2 : fn.body ≠ none := fun e => by rw [e] at h; simp at h
    have h1 : ¬ fn.name = "runtime.NumGoroutine" := by simpa using h.1
    simp [callFunc, hq, h1, h2]
theorem based_at {a : Act} (hb : Based ops a0 a) (p : Nat) (hp : apart ops p = true) : a.eval (.tmp p) = a0.tmps.getD p undef := hb.2.2 p hp
end
theorem gdv {a : Act} {p : Nat} {v : Value} (h : a.tmps.getD p undef = v) : a.tmps[p]?.getD undef = v := by rw [← h]; simp

section
variable {P : Program} {ops : Array Oper} {Q : Exit → Act → World → Prop} {md : Region.Mode} {F : Nat → Fact} {a0 : Act} {w0 : World}
theorem step_callv {i : Nat} {o : Oper} (hi : ops[i]? = some o) (n : FuncId) (args : Array Operand) (ts : Array TypeId) (hop : o.op = .call { callee := .value (.func n), args := args, argTypes := ts }) (he : enters P n = true)
    (G : ∀ a w, Based ops a0 a → Gm w0.heap.size w0 w → Facts md ops F i a w → Calls P n (args.toList.map a.eval).toArray w fun e w' => ∃ v, e = .returned v ∧ Gm w0.heap.size w w' ∧ (F i).p v w') : StepOk P md ops Q F a0 w0 i := by
  intro o' ho' a w hb hw hf K hK
  obtain rfl := Option.some.inj (hi.symm.trans ho')
  have hr : (execOp a.eval o).run P w = .ok (.enter n (args.map a.eval)) w := by
    have h0 : (Deferred.ofValue (Value.func (Fn.func n) #[] #[]) (args.map a.eval)).run P w = .ok { target := .fn (.func n) #[], args := args.map a.eval } w := by simp [Deferred.ofValue]
    simp [execOp, hop, resolve, invoke, Act.eval, h0, run_enter he]
  have e : args.map a.eval = (args.toList.map a.eval).toArray := by cases args; simp
  unfold Oper.wp
  rw [hr, e, Oper.upon_enter]
  refine (G a w hb hw hf).mono ?_
  rintro e w' ⟨v, rfl, hn, hv⟩
  exact hK v w' hn hv
end
end Go.Proofs.Ytcljoaknaegpmaa.Mk

/-
  Regions by facts that end with a row of operations, over Gm (written by gens/rem.py).
-/
namespace Go.Proofs.Ytcljoaknaegpmaa.Mk
open Go Go.RowKit

section
variable {P : Program} {ops : Array Oper} {Q : Exit → Act → World → Prop} {md : Region.Mode} {F : Nat → Fact} {a0 : Act} {w0 : World}
theorem writes_is {i d : Nat} (h : writes ops i d = true) : ∃ o, ops[i]? = some o ∧ o.dst = some d := by
  unfold writes at h
  cases ho : ops[i]? with
  | none => rw [ho] at h; simp at h
  | some o =>
    rw [ho] at h
    exact ⟨o, rfl, by simpa using h⟩

/-- The tail, one behind the other. -/
def tailWp (P : Program) (Q : Exit → Act → World → Prop) : List Oper → Act → World → Prop
  | [], a, w => Q .normal a w
  | o :: os, a, w => o.wp P a w (fun a' w' => tailWp P Q os a' w') Q
/-- What this law asks of the region's text: number k waits for all ahead of it, each behind k for the one ahead of it. -/
def textTail (md : Region.Mode) (draw : Bool) (ops : Array Oper) (n k : Nat) : Bool :=
  (ops.all fun o => o.guard.isNone && (match o.dst with | some d => decide (d < n) | none => true))
  && ((List.range ops.size).all fun i => match ops[i]? with
    | some o => o.after.all (fun e => !Region.binds md e || decide (e.on < i)) && (List.range i).all fun j => match ops[j]? with
      | some x => x.dst.isNone || o.dst != x.dst
      | none => true
    | none => true)
  && decide (k ≤ ops.size)
  && (!draw || k == ops.size || (List.range k).all fun j => (List.range (k + 1)).any fun m => decide (j < m) && match ops[m]? with
    | some o => o.after.any (fun e => Region.binds md e && e.on == j)
    | none => false)
  && (!draw || (List.range ops.size).all fun i => decide (i ≤ k) || match ops[i]? with
    | some o => o.after.any (fun e => Region.binds md e && e.on + 1 == i)
    | none => false)
structure TextT (md : Region.Mode) (draw : Bool) (ops : Array Oper) (n k : Nat) : Prop where
  g : ∀ (i : Nat) o, ops[i]? = some o → o.guard = none
  d : ∀ (i : Nat) o d, ops[i]? = some o → o.dst = some d → d < n
  a : ∀ (i : Nat) o, ops[i]? = some o → ∀ e ∈ o.after, Region.binds md e = true → e.on < i
  x : ∀ (i j : Nat) o o' d, ops[i]? = some o → ops[j]? = some o' → i ≠ j → o.dst = some d → o'.dst ≠ some d
  k1 : k ≤ ops.size
  c : draw = true → k < ops.size → ∀ j, j < k → ∃ (m : Nat) (o : Oper), j < m ∧ m ≤ k ∧ ops[m]? = some o ∧ ∃ e ∈ o.after, Region.binds md e = true ∧ e.on = j
  l : draw = true → ∀ i o, k < i → ops[i]? = some o → ∃ e ∈ o.after, Region.binds md e = true ∧ e.on + 1 = i
theorem textT_of {n k : Nat} {draw : Bool} (h : textTail md draw ops n k = true) : TextT md draw ops n k := by
  unfold textTail at h
  simp only [Bool.and_eq_true, decide_eq_true_eq] at h
  obtain ⟨⟨⟨⟨h1, h2⟩, h3⟩, h4⟩, h5⟩ := h
  rw [Array.all_eq_true_iff_forall_mem] at h1
  rw [List.all_eq_true] at h2
  have H : ∀ (i j : Nat) o o' d, j < i → ops[i]? = some o → ops[j]? = some o' → o.dst = some d → o'.dst ≠ some d := by
    intro i j o o' d hij hi hj hd hd'
    have q := h2 i (List.mem_range.2 (Array.getElem?_eq_some_iff.1 hi).1)
    simp only [hi, Bool.and_eq_true] at q
    have r := List.all_eq_true.1 q.2 j (List.mem_range.2 hij)
    simp only [hj, hd, hd'] at r
    simp at r
  refine ⟨?_, ?_, ?_, ?_, h3, ?_, ?_⟩
  · intro i o ho
    have q := h1 o (Array.mem_of_getElem? ho)
    simp only [Bool.and_eq_true] at q
    exact Option.isNone_iff_eq_none.1 q.1
  · intro i o d ho hd
    have q := h1 o (Array.mem_of_getElem? ho)
    simp only [Bool.and_eq_true, hd, decide_eq_true_eq] at q
    exact q.2
  · intro i o ho e he hb
    have q := h2 i (List.mem_range.2 (Array.getElem?_eq_some_iff.1 ho).1)
    simp only [ho, Bool.and_eq_true] at q
    have r := (Array.all_eq_true_iff_forall_mem.1 q.1) e he
    rw [hb] at r
    simpa using r
  · intro i j o o' d hi hj hij hd hd'
    rcases Nat.lt_or_gt_of_ne hij with h | h
    · exact H j i o' o d h hj hi hd' hd
    · exact H i j o o' d h hi hj hd hd'
  · intro hdr hk j hj
    rw [hdr] at h4
    have h4' : ((List.range k).all fun j => (List.range (k + 1)).any fun m => decide (j < m) && match ops[m]? with
      | some o => o.after.any (fun e => Region.binds md e && e.on == j)
      | none => false) = true := by
      simp only [Bool.not_true, Bool.false_or, Bool.or_eq_true] at h4
      rcases h4 with e | e
      · have : k = ops.size := by simpa using e
        omega
      · exact e
    have q := List.all_eq_true.1 h4' j (List.mem_range.2 hj)
    obtain ⟨m, hm, r⟩ := List.any_eq_true.1 q
    simp only [Bool.and_eq_true, decide_eq_true_eq] at r
    cases ho : ops[m]? with
    | none => rw [ho] at r; simp at r
    | some o =>
      rw [ho] at r
      obtain ⟨e, he, hb⟩ := Array.any_eq_true'.1 r.2
      simp only [Bool.and_eq_true, beq_iff_eq] at hb
      exact ⟨m, o, r.1, by have := List.mem_range.1 hm; omega, ho, e, he, hb.1, hb.2⟩
  · intro hdr i o hki ho
    rw [hdr] at h5
    simp only [Bool.not_true, Bool.false_or] at h5
    rw [List.all_eq_true] at h5
    have q := h5 i (List.mem_range.2 (Array.getElem?_eq_some_iff.1 ho).1)
    rw [ho] at q
    simp only [Bool.or_eq_true] at q
    rcases q with e | e
    · have : i ≤ k := by simpa using e
      omega
    · obtain ⟨e, he, hb⟩ := Array.any_eq_true'.1 e
      simp only [Bool.and_eq_true, beq_iff_eq] at hb
      exact ⟨e, he, hb.1, hb.2⟩
theorem Held.nextT {n k : Nat} {draw : Bool} (T : TextT md draw ops n k) (hn : n ≤ a0.tmps.size) {listed : Array Bool} {a : Act} {w : World} (H : Held md ops F a0 w0 listed a w) {i : Nat} {o : Oper} (ho : ops[i]? = some o) (hr : i ∈ Region.ready md ops listed)
    {v : Value} {w' : World} (hw : Gm w0.heap.size w w') (hf : (F i).p v w') : Held md ops F a0 w0 (listed.setIfInBounds i true) (a.put o.dst v) w' := by
  have hi : i < ops.size := (Array.getElem?_eq_some_iff.1 ho).1
  have hz : a.tmps.size = a0.tmps.size := H.b.2.1
  refine ⟨⟨by rw [put_defers]; exact H.b.1, by rw [put_size]; exact hz, fun d hd => ?_⟩, Gm.trans H.n hw, ?_, ?_, by simp [H.s]⟩
  · rw [put_off]
    · exact H.b.2.2 d hd
    · have q := Array.all_eq_true_iff_forall_mem.1 hd o (Array.mem_of_getElem? ho)
      simpa using q
  · intro j oj d hoj hj hd
    by_cases e : i = j
    · subst e
      obtain rfl := Option.some.inj (ho.symm.trans hoj)
      rw [hd, put_at (Nat.lt_of_lt_of_le (T.d i o d ho hd) (hz ▸ hn))]
      exact hf
    · rw [getD_off e] at hj
      rw [put_off (T.x j i oj o d hoj ho (Ne.symm e) hd)]
      exact (F j).up hw (H.f j oj d hoj hj hd)
  · intro j oj hoj hj e he hb
    obtain ⟨_, o', ho', q⟩ := mem_ready.1 hr
    by_cases c : i = e.on
    · rw [← c]
      exact getD_same (by rw [H.s]; exact hi) _
    · rw [getD_off c]
      by_cases e' : i = j
      · subst e'
        obtain rfl := Option.some.inj (ho'.symm.trans hoj)
        exact q e he hb
      · rw [getD_off e'] at hj
        exact H.c j oj hoj hj e he hb

/-- The tail alone is left. -/
theorem tail_any {n k : Nat} (T : TextT md true ops n k) : ∀ (m t fuel : Nat) (listed : Array Bool) (a : Act) (w : World), t + m = ops.size → k ≤ t → listed.size = ops.size → (∀ j, j < t → listed.getD j false = true) → (∀ j, t ≤ j → listed.getD j false = false) → m ≤ fuel →
    tailWp P Q (ops.toList.drop t) a w → wpAny P md ops Q fuel listed a w := by
  intro m
  induction m with
  | zero =>
    intro t fuel listed a w ht hk hs h1 h2 hf hq
    obtain rfl : t = ops.size := by omega
    have e : ops.toList.drop ops.size = [] := by simp
    rw [e] at hq
    refine wpAny_done ?_ hq fuel
    cases hr : Region.ready md ops listed with
    | nil => rfl
    | cons i tl =>
      exfalso
      have hi : i ∈ Region.ready md ops listed := by rw [hr]; simp
      obtain ⟨h0, o, ho, _⟩ := mem_ready.1 hi
      have hlt := (Array.getElem?_eq_some_iff.1 ho).1
      rw [dflt (by rw [hs]; exact hlt), h1 i hlt] at h0
      simp at h0
  | succ m ih =>
    intro t fuel listed a w ht hk hs h1 h2 hf hq
    have hlt : t < ops.size := by omega
    obtain ⟨o, ho⟩ : ∃ o, ops[t]? = some o := ⟨ops[t], by simp [hlt]⟩
    have e : ops.toList.drop t = o :: ops.toList.drop (t + 1) := by
      rw [List.drop_eq_getElem_cons (by simpa using hlt)]
      congr 1
      have := (Array.getElem?_eq_some_iff.1 ho).2
      simpa using this
    rw [e] at hq
    obtain ⟨f2, rfl⟩ : ∃ f2, fuel = f2 + 1 := ⟨fuel - 1, by omega⟩
    refine ⟨fun hr => ?_, fun i hi => ?_⟩
    · exfalso
      have hr' : t ∈ Region.ready md ops listed := mem_ready.2 ⟨by rw [dflt (by rw [hs]; exact hlt)]; exact h2 t (Nat.le_refl _), o, ho, fun e he hb => h1 e.on (T.a t o ho e he hb)⟩
      rw [hr] at hr'
      simp at hr'
    · obtain ⟨h0, oi, hoi, hall⟩ := mem_ready.1 hi
      have hil := (Array.getElem?_eq_some_iff.1 hoi).1
      rw [dflt (by rw [hs]; exact hil)] at h0
      have hti : i = t := by
        rcases Nat.lt_trichotomy i t with c | c | c
        · rw [h1 i c] at h0; simp at h0
        · exact c
        · exfalso
          obtain ⟨e, he, hb, hq'⟩ := T.l rfl i oi (by omega) hoi
          have := hall e he hb
          rw [h2 e.on (by omega)] at this
          simp at this
      subst hti
      obtain rfl := Option.some.inj (ho.symm.trans hoi)
      have hwant : Region.wanted o (yielded ops a.tmps) = true := by simp [Region.wanted, T.g i o ho]
      refine wpOp_step ho fun K' hK => ?_
      rw [if_pos hwant]
      refine Oper.wp_mono (fun a' w' h => hK _ _ (ih (i + 1) f2 (listed.setIfInBounds i true) a' w' (by omega) (by omega) (by simp [hs]) (fun j hj => ?_) (fun j hj => ?_) (by omega) h)) hq
      · by_cases c : i = j
        · subst c
          exact getD_same (by rw [hs]; exact hlt) _
        · rw [getD_off c]
          exact h1 j (by omega)
      · rw [getD_off (by omega)]
        exact h2 j (by omega)

/-- The block that a value leads to. -/
def blkOf : Value → Option Nat
  | .pointer (some a) => some a.block
  | .slice (some a) _ _ => some a.block
  | _ => none
/-- One operation whose answer leads to a block of its own making. -/
def FreshG (P : Program) (md : Region.Mode) (ops : Array Oper) (Q : Exit → Act → World → Prop) (F : Nat → Fact) (a0 : Act) (w0 : World) (i : Nat) : Prop :=
  ∀ o, ops[i]? = some o → ∀ a w, Based ops a0 a → Gm w0.heap.size w0 w → (∀ j d, waits md ops i j d = true → (F j).p (a.tmps.getD d undef) w) →
    ∀ K : Act → World → Prop, (∀ v w', Gm w0.heap.size w w' → (F i).p v w' → (∃ b, blkOf v = some b ∧ w.heap.size ≤ b ∧ b < w'.heap.size) → K (a.put o.dst v) w') → o.wp P a w K Q
theorem FreshG.step {i : Nat} (h : FreshG P md ops Q F a0 w0 i) : StepOk P md ops Q F a0 w0 i :=
  fun o ho a w hb hw hf K hK => h o ho a w hb hw hf K (fun v w' hn hv _ => hK v w' hn hv)
/-- Those that make a block are apart from one another. -/
structure SepL (fr : List (Nat × Nat)) (listed : Array Bool) (a : Act) (w : World) : Prop where
  l : ∀ p ∈ fr, listed.getD p.1 false = true → ∃ q, blkOf (a.tmps.getD p.2 undef) = some q ∧ q < w.heap.size
  n : ∀ p ∈ fr, ∀ p' ∈ fr, p ≠ p' → listed.getD p.1 false = true → listed.getD p'.1 false = true → blkOf (a.tmps.getD p.2 undef) ≠ blkOf (a.tmps.getD p'.2 undef)
theorem SepL.other {fr : List (Nat × Nat)} {listed : Array Bool} {a : Act} {w w' : World} (h : SepL fr listed a w) {i : Nat} {dst : Option Tmp} {v : Value} (h1 : ∀ p ∈ fr, i ≠ p.1) (e1 : ∀ p ∈ fr, dst ≠ some p.2) (hw : w.heap.size ≤ w'.heap.size) : SepL fr (listed.setIfInBounds i true) (a.put dst v) w' := by
  refine ⟨fun p hp g => ?_, fun p hp p' hp' hne g g' => ?_⟩
  · rw [getD_off (h1 p hp)] at g
    obtain ⟨q, hq, hl⟩ := h.l p hp g
    exact ⟨q, by rw [put_off (e1 p hp)]; exact hq, by omega⟩
  · rw [getD_off (h1 p hp)] at g
    rw [getD_off (h1 p' hp')] at g'
    rw [put_off (e1 p hp), put_off (e1 p' hp')]
    exact h.n p hp p' hp' hne g g'
theorem SepL.this {fr : List (Nat × Nat)} {listed : Array Bool} {a : Act} {w w' : World} (h : SepL fr listed a w) {v : Value} {i d : Nat} (hi : ∀ p ∈ fr, p ≠ (i, d) → i ≠ p.1 ∧ d ≠ p.2) (hs : d < a.tmps.size) (hv : ∃ b, blkOf v = some b ∧ w.heap.size ≤ b ∧ b < w'.heap.size) :
    SepL fr (listed.setIfInBounds i true) (a.put (some d) v) w' := by
  obtain ⟨b, hb, hb1, hb2⟩ := hv
  have old : ∀ p ∈ fr, p ≠ (i, d) → (listed.setIfInBounds i true).getD p.1 false = true → ∃ q, blkOf ((a.put (some d) v).tmps.getD p.2 undef) = some q ∧ q < w.heap.size := by
    intro p hp c g
    obtain ⟨c1, c2⟩ := hi p hp c
    rw [getD_off c1] at g
    obtain ⟨q, hq, hl⟩ := h.l p hp g
    exact ⟨q, by rw [put_off (by simpa using c2)]; exact hq, hl⟩
  have new : blkOf ((a.put (some d) v).tmps.getD d undef) = some b := by rw [put_at hs, hb]
  have ne : ∀ q, q < w.heap.size → (some q : Option Nat) ≠ some b := by
    intro q hq x
    simp only [Option.some.injEq] at x
    omega
  refine ⟨fun p hp g => ?_, fun p hp p' hp' hne g g' => ?_⟩
  · by_cases c : p = (i, d)
    · subst c
      exact ⟨b, new, hb2⟩
    · obtain ⟨q, hq, hl⟩ := old p hp c g
      exact ⟨q, hq, by omega⟩
  · by_cases c : p = (i, d)
    · subst c
      obtain ⟨q, hq, hl⟩ := old p' hp' (Ne.symm hne) g'
      show blkOf ((a.put (some d) v).tmps.getD d undef) ≠ _
      rw [new, hq]
      exact (ne q hl).symm
    · obtain ⟨q, hq, hl⟩ := old p hp c g
      by_cases c' : p' = (i, d)
      · subst c'
        show _ ≠ blkOf ((a.put (some d) v).tmps.getD d undef)
        rw [new, hq]
        exact ne q hl
      · obtain ⟨c1, c2⟩ := hi p hp c
        obtain ⟨c1', c2'⟩ := hi p' hp' c'
        rw [getD_off c1] at g
        rw [getD_off c1'] at g'
        rw [put_off (by simpa using c2), put_off (by simpa using c2')]
        exact h.n p hp p' hp' hne g g'

/-- What is told behind the head. -/
abbrev HeadDone (P : Program) (ops : Array Oper) (Q : Exit → Act → World → Prop) (F : Nat → Fact) (a0 : Act) (w0 : World) (k : Nat) (fr : List (Nat × Nat)) : Prop :=
  ∀ a w, Based ops a0 a → Gm w0.heap.size w0 w → (∀ i o d, i < k → ops[i]? = some o → o.dst = some d → (F i).p (a.tmps.getD d undef) w) → (∀ p ∈ fr, ∀ p' ∈ fr, p ≠ p' → blkOf (a.tmps.getD p.2 undef) ≠ blkOf (a.tmps.getD p'.2 undef)) → tailWp P Q (ops.toList.drop k) a w

theorem any_tail {n k : Nat} (T : TextT md true ops n k) (hn : n ≤ a0.tmps.size) (steps : ∀ i, i < k → StepOk P md ops Q F a0 w0 i) (fr : List (Nat × Nat)) (hfr : ∀ p ∈ fr, p.1 < k ∧ writes ops p.1 p.2 = true ∧ FreshG P md ops Q F a0 w0 p.1) (hnd : ∀ p ∈ fr, ∀ p' ∈ fr, p ≠ p' → p.1 ≠ p'.1)
    (fin : HeadDone P ops Q F a0 w0 k fr) :
    ∀ (fuel : Nat) (listed : Array Bool) (a : Act) (w : World), left listed ops.size ≤ fuel → Held md ops F a0 w0 listed a w → SepL fr listed a w → (∀ j, k ≤ j → listed.getD j false = false) → ops.size - k ≤ fuel → wpAny P md ops Q fuel listed a w := by
  intro fuel
  induction fuel with
  | zero =>
    intro listed a w hl H S hk hf
    have hks : k = ops.size := by have := T.k1; omega
    have hall : ∀ i, i < ops.size → listed.getD i false = true := fun i hi => by
      rw [← dflt (by rw [H.s]; exact hi)]
      exact left_zero (n := ops.size) (by omega) i hi
    exact tail_any T 0 ops.size 0 listed a w (by omega) (by omega) H.s (fun j hj => hall j hj) (fun j hj => hk j (by omega)) (Nat.le_refl _) (hks ▸ fin a w H.b H.n (fun i o d hi ho hd => H.f i o d ho (hall i (by omega)) hd) (fun p hp p' hp' hne => S.n p hp p' hp' hne (hall p.1 (by have := (hfr p hp).1; omega)) (hall p'.1 (by have := (hfr p' hp').1; omega))))
  | succ fuel ih =>
    intro listed a w hl H S hk hf
    by_cases hall : ∀ j, j < k → listed.getD j false = true
    · exact tail_any T (ops.size - k) k (fuel + 1) listed a w (by have := T.k1; omega) (Nat.le_refl _) H.s hall hk hf (fin a w H.b H.n (fun i o d hi ho hd => H.f i o d ho (hall i hi) hd) (fun p hp p' hp' hne => S.n p hp p' hp' hne (hall p.1 (hfr p hp).1) (hall p'.1 (hfr p' hp').1)))
    · refine ⟨fun hr => ?_, fun i hi => ?_⟩
      · exfalso
        refine hall fun j hj => ?_
        have : ∀ m i, i < m → i < k → listed.getD i false = true := by
          intro m
          induction m with
          | zero => intro i hi; omega
          | succ m ihm =>
            intro i hi hik
            rcases Nat.lt_or_ge i m with h1 | h1
            · exact ihm i h1 hik
            · obtain rfl : i = m := by omega
              cases hc : listed.getD i false
              · exfalso
                have hks : i < ops.size := by have := T.k1; omega
                obtain ⟨o, ho⟩ : ∃ o, ops[i]? = some o := ⟨ops[i], by simp [hks]⟩
                have hr' : i ∈ Region.ready md ops listed := mem_ready.2 ⟨by rw [dflt (by rw [H.s]; omega)]; exact hc, o, ho, fun e he hb => ihm e.on (T.a i o ho e he hb) (by have := T.a i o ho e he hb; omega)⟩
                rw [hr] at hr'
                simp at hr'
              · rfl
        exact this (j + 1) j (by omega) hj
      · obtain ⟨h0, o, ho, hready⟩ := mem_ready.1 hi
        have hlt := (Array.getElem?_eq_some_iff.1 ho).1
        have hik : i < k := by
          rcases Nat.lt_or_ge i k with h1 | h1
          · exact h1
          · exfalso
            rcases Nat.lt_or_ge k i with h2 | h2
            · obtain ⟨e, he, hb, hq⟩ := T.l rfl i o h2 ho
              have := hready e he hb
              rw [hk e.on (by omega)] at this
              simp at this
            · obtain rfl : i = k := by omega
              refine hall fun j hj => ?_
              have ah : ∀ m j, i - j ≤ m → j < i → listed.getD j false = true := by
                intro m
                induction m with
                | zero => intro j hm hj; omega
                | succ m ihm =>
                  intro j hm hj
                  obtain ⟨p, oo, hjp, hpk, hoo, e, he, hb, rfl⟩ := T.c rfl hlt j hj
                  rcases Nat.lt_or_ge p i with h1 | h1
                  · exact H.c p oo hoo (ihm p (by omega) h1) e he hb
                  · obtain rfl : p = i := by omega
                    obtain rfl := Option.some.inj (ho.symm.trans hoo)
                    exact hready e he hb
              exact ah (i - j) j (Nat.le_refl _) hj
        have hwant : Region.wanted o (yielded ops a.tmps) = true := by simp [Region.wanted, T.g i o ho]
        refine wpOp_step ho fun K' hK => ?_
        rw [if_pos hwant]
        have hll := left_set (by rw [H.s]; exact hlt) h0 ops.size hlt
        have hfacts : ∀ j d, waits md ops i j d = true → (F j).p (a.tmps.getD d undef) w := by
          intro j d hjd
          unfold waits at hjd
          rw [ho] at hjd
          cases hoj : ops[j]? with
          | none => rw [hoj] at hjd; simp at hjd
          | some oj =>
            rw [hoj] at hjd
            simp only [Bool.and_eq_true, beq_iff_eq] at hjd
            obtain ⟨e, he, hb⟩ := Array.any_eq_true'.1 hjd.1
            simp only [Bool.and_eq_true, beq_iff_eq] at hb
            exact H.f j oj d hoj (by rw [← hb.2]; exact hready e he hb.1) hjd.2
        have htail : ops.size - k ≤ fuel := by
          -- k and all behind it are still to come, and i besides
          have lk : ∀ m, m ≤ ops.size → k ≤ m → (m - k) + left listed k ≤ left listed m := by
            intro m
            induction m with
            | zero => intro _ hk0; have : k = 0 := by omega
                      subst this; simp
            | succ m ihm =>
              intro hm hkm
              rcases Nat.lt_or_ge m k with c | c
              · have : k = m + 1 := by omega
                subst this
                omega
              · have q := ihm (by omega) c
                rw [left, if_pos (by rw [dflt (by rw [H.s]; omega)]; exact hk m c)]
                omega
          have l1 : 1 ≤ left listed k := by
            have := left_set (by rw [H.s]; exact hlt) h0 k hik
            omega
          have := lk ops.size (Nat.le_refl _) T.k1
          omega
        have go : ∀ v w', Gm w0.heap.size w w' → (F i).p v w' → SepL fr (listed.setIfInBounds i true) (a.put o.dst v) w' → K' (a.put o.dst v) w' := by
          intro v w' hw hf' hS
          refine hK _ _ (ih _ _ _ (by omega) (H.nextT T hn ho hi hw hf') hS (fun j hj => ?_) htail)
          rw [getD_off (by omega)]
          exact hk j hj
        by_cases c : ∃ p ∈ fr, i = p.1
        · obtain ⟨p, hp, rfl⟩ := c
          obtain ⟨_, hw', f⟩ := hfr p hp
          obtain ⟨op, hop, hdp⟩ := writes_is hw'
          obtain rfl := Option.some.inj (hop.symm.trans ho)
          refine f op ho a w H.b H.n hfacts K' fun v w' hw hf' hv => go v w' hw hf' ?_
          rw [hdp]
          refine S.this (i := p.1) (d := p.2) (fun p' hp' hne => ?_) (by rw [H.b.2.1]; exact Nat.lt_of_lt_of_le (T.d p.1 op p.2 hop hdp) hn) hv
          have n1 := hnd p hp p' hp' (Ne.symm hne)
          obtain ⟨o', ho', hd'⟩ := writes_is (hfr p' hp').2.1
          exact ⟨n1, fun e => T.x p.1 p'.1 op o' p.2 hop ho' n1 hdp (by rw [e]; exact hd')⟩
        · refine steps i hik o ho a w H.b H.n hfacts K' fun v w' hw hf' => go v w' hw hf' ?_
          refine S.other (fun p hp e => c ⟨p, hp, e⟩) (fun p hp e => ?_) hw.size
          obtain ⟨o', ho', hd'⟩ := writes_is (hfr p hp).2.1
          exact T.x i p.1 o o' p.2 ho ho' (fun x => c ⟨p, hp, x⟩) e hd'

theorem tail_line {n k : Nat} {draw : Bool} (T : TextT md draw ops n k) : ∀ (m t : Nat) (a : Act) (w : World), t + m = ops.size → k ≤ t → tailWp P Q (ops.toList.drop t) a w → wpOps P ops Q (List.range' t m) a w := by
  intro m
  induction m with
  | zero =>
    intro t a w ht hk hq
    obtain rfl : t = ops.size := by omega
    have e : ops.toList.drop ops.size = [] := by simp
    rw [e] at hq
    exact hq
  | succ m ih =>
    intro t a w ht hk hq
    have hlt : t < ops.size := by omega
    obtain ⟨o, ho⟩ : ∃ o, ops[t]? = some o := ⟨ops[t], by simp [hlt]⟩
    have e : ops.toList.drop t = o :: ops.toList.drop (t + 1) := by
      rw [List.drop_eq_getElem_cons (by simpa using hlt)]
      congr 1
      have := (Array.getElem?_eq_some_iff.1 ho).2
      simpa using this
    rw [e] at hq
    have hwant : Region.wanted o (yielded ops a.tmps) = true := by simp [Region.wanted, T.g t o ho]
    rw [List.range'_succ, wpOps_cons]
    refine wpOp_step ho fun K' hK => ?_
    rw [if_pos hwant]
    exact Oper.wp_mono (fun a' w' h => hK _ _ (ih (t + 1) a' w' (by omega) (by omega) h)) hq
theorem line_tail {n k : Nat} {draw : Bool} (T : TextT md draw ops n k) (hn : n ≤ a0.tmps.size) (steps : ∀ i, i < k → StepOk P md ops Q F a0 w0 i) (fr : List (Nat × Nat)) (hfr : ∀ p ∈ fr, p.1 < k ∧ writes ops p.1 p.2 = true ∧ FreshG P md ops Q F a0 w0 p.1) (hnd : ∀ p ∈ fr, ∀ p' ∈ fr, p ≠ p' → p.1 ≠ p'.1)
    (fin : HeadDone P ops Q F a0 w0 k fr) :
    ∀ (m i : Nat) (listed : Array Bool) (a : Act) (w : World), i + m = ops.size → i ≤ k → Based ops a0 a → Gm w0.heap.size w0 w → (∀ j o d, j < i → ops[j]? = some o → o.dst = some d → (F j).p (a.tmps.getD d undef) w) → listed.size = ops.size → (∀ j, j < i → listed.getD j false = true) → SepL fr listed a w →
      wpOps P ops Q (List.range' i m) a w := by
  intro m
  induction m with
  | zero =>
    intro i listed a w him hik hb hw hf hs hl S
    obtain rfl : i = k := by have := T.k1; omega
    exact tail_line T 0 i a w (by omega) (Nat.le_refl _) (fin a w hb hw hf (fun p hp p' hp' hne => S.n p hp p' hp' hne (hl p.1 (hfr p hp).1) (hl p'.1 (hfr p' hp').1)))
  | succ m ih =>
    intro i listed a w him hik hb hw hf hs hl S
    have hlt : i < ops.size := by omega
    obtain ⟨o, ho⟩ : ∃ o, ops[i]? = some o := ⟨ops[i], by simp [hlt]⟩
    rcases Nat.lt_or_ge i k with h1 | h1
    · have hwant : Region.wanted o (yielded ops a.tmps) = true := by simp [Region.wanted, T.g i o ho]
      rw [List.range'_succ, wpOps_cons]
      refine wpOp_step ho fun K' hK => ?_
      rw [if_pos hwant]
      have hfacts : ∀ j d, waits md ops i j d = true → (F j).p (a.tmps.getD d undef) w := by
        intro j d hjd
        unfold waits at hjd
        rw [ho] at hjd
        cases hoj : ops[j]? with
        | none => rw [hoj] at hjd; simp at hjd
        | some oj =>
          rw [hoj] at hjd
          simp only [Bool.and_eq_true, beq_iff_eq] at hjd
          obtain ⟨e, he, hb⟩ := Array.any_eq_true'.1 hjd.1
          simp only [Bool.and_eq_true, beq_iff_eq] at hb
          exact hf j oj d (by rw [← hb.2]; exact T.a i o ho e he hb.1) hoj hjd.2
      have go : ∀ v w', Gm w0.heap.size w w' → (F i).p v w' → SepL fr (listed.setIfInBounds i true) (a.put o.dst v) w' → K' (a.put o.dst v) w' := by
        intro v w' hw' hfv hS
        refine hK _ _ (ih (i + 1) (listed.setIfInBounds i true) _ _ (by omega) (by omega) ⟨by rw [put_defers]; exact hb.1, by rw [put_size]; exact hb.2.1, fun d hd => ?_⟩ (Gm.trans hw hw') ?_ (by simp [hs]) (fun j hj => ?_) hS)
        · rw [put_off]
          · exact hb.2.2 d hd
          · have q := Array.all_eq_true_iff_forall_mem.1 hd o (Array.mem_of_getElem? ho)
            simpa using q
        · intro j oj d hj hoj hd
          by_cases e : i = j
          · subst e
            obtain rfl := Option.some.inj (ho.symm.trans hoj)
            rw [hd, put_at (Nat.lt_of_lt_of_le (T.d i o d ho hd) (hb.2.1 ▸ hn))]
            exact hfv
          · rw [put_off (T.x j i oj o d hoj ho (Ne.symm e) hd)]
            exact (F j).up hw' (hf j oj d (by omega) hoj hd)
        · by_cases c : i = j
          · subst c
            exact getD_same (by rw [hs]; exact hlt) _
          · rw [getD_off c]
            exact hl j (by omega)
      by_cases c : ∃ p ∈ fr, i = p.1
      · obtain ⟨p, hp, rfl⟩ := c
        obtain ⟨_, hw', f⟩ := hfr p hp
        obtain ⟨op, hop, hdp⟩ := writes_is hw'
        obtain rfl := Option.some.inj (hop.symm.trans ho)
        refine f op ho a w hb hw hfacts K' fun v w' hw' hf' hv => go v w' hw' hf' ?_
        rw [hdp]
        refine S.this (i := p.1) (d := p.2) (fun p' hp' hne => ?_) (by rw [hb.2.1]; exact Nat.lt_of_lt_of_le (T.d p.1 op p.2 hop hdp) hn) hv
        have n1 := hnd p hp p' hp' (Ne.symm hne)
        obtain ⟨o', ho', hd'⟩ := writes_is (hfr p' hp').2.1
        exact ⟨n1, fun e => T.x p.1 p'.1 op o' p.2 hop ho' n1 hdp (by rw [e]; exact hd')⟩
      · refine steps i h1 o ho a w hb hw hfacts K' fun v w' hw' hf' => go v w' hw' hf' ?_
        refine S.other (fun p hp e => c ⟨p, hp, e⟩) (fun p hp e => ?_) hw'.size
        obtain ⟨o', ho', hd'⟩ := writes_is (hfr p hp).2.1
        exact T.x i p.1 o o' p.2 ho ho' (fun x => c ⟨p, hp, x⟩) e hd'
    · obtain rfl : i = k := by omega
      exact tail_line T (m + 1) i a w him (Nat.le_refl _) (fin a w hb hw hf (fun p hp p' hp' hne => S.n p hp p' hp' hne (hl p.1 (hfr p hp).1) (hl p'.1 (hfr p' hp').1)))

/-- A region of any kind that ends with a row of operations. -/
theorem region_tail {id : Nat} {w : World} {draw : Bool} (k : Nat) (F : Nat → Fact) (hm : P.follows .mixedOrders = true) (hT : textTail .any draw ops a0.tmps.size k = true) (steps : ∀ i, i < k → StepOk P .any ops Q F a0 w i)
    (fr : List (Nat × Nat)) (hfr : ∀ p ∈ fr, p.1 < k ∧ writes ops p.1 p.2 = true ∧ FreshG P .any ops Q F a0 w p.1) (hnd : ∀ p ∈ fr, ∀ p' ∈ fr, p ≠ p' → p.1 ≠ p'.1)
    (fin : ∀ a w', Based ops a0 a → Gm w.heap.size w w' → (∀ i d, decide (i < k) = true → writes ops i d = true → (F i).p (a.tmps.getD d undef) w') → (∀ p ∈ fr, ∀ p' ∈ fr, p ≠ p' → blkOf (a.tmps.getD p.2 undef) ≠ blkOf (a.tmps.getD p'.2 undef)) → tailWp P Q (ops.toList.drop k) a w') : (Code.region id ops draw).wp P Q a0 w := by
  have T := textT_of hT
  have fin' : HeadDone P ops Q F a0 w k fr := fun a w' hb hw hf hne => fin a w' hb hw (fun i d hi hd => by
    obtain ⟨o, ho, hd'⟩ := writes_is hd
    exact hf i o d (of_decide_eq_true hi) ho hd') hne
  have z : ∀ j, (Array.replicate ops.size false).getD j false = false := fun j => by
    rw [Array.getD_eq_getD_getElem?, Array.getElem?_replicate]
    split <;> rfl
  have S0 : ∀ w', SepL fr (Array.replicate ops.size false) a0 w' := fun w' => ⟨fun p hp g => by rw [z] at g; simp at g, fun p hp p' hp' hne g g' => by rw [z] at g; simp at g⟩
  cases draw with
  | false =>
    refine wp_region ?_
    have h := line_tail (w0 := w) T (Nat.le_refl _) steps fr hfr hnd fin' ops.size 0 (Array.replicate ops.size false) a0 w (by omega) (by omega) ⟨rfl, rfl, fun _ _ => rfl⟩ (Gm.refl _ _) (fun j o d hj => by omega) (by simp) (fun j hj => by omega) (S0 w)
    rw [List.range_eq_range']
    exact h
  | true =>
    refine wp_region_any hm ?_
    refine any_tail (w0 := w) T (Nat.le_refl _) steps fr hfr hnd fin' ops.size _ a0 _ ?_ ⟨⟨rfl, rfl, fun _ _ => rfl⟩, (Gm.refl _ _).drew, ?_, ?_, by simp⟩ (S0 _) (fun j _ => z j) (by omega)
    · have : ∀ m, left (Array.replicate ops.size false) m ≤ m := by
        intro m
        induction m with
        | zero => exact Nat.le_refl _
        | succ m ih => unfold left; split <;> omega
      exact this _
    · intro i o d ho hl _
      rw [z] at hl
      simp at hl
    · intro i o ho hl
      rw [z] at hl
      simp at hl
theorem puts_tail {n k : Nat} {draw : Bool} (hT : textTail md draw ops n k = true) (hn : n = a0.tmps.size) {a : Act} (hb : Based ops a0 a) (vs : Nat → Value) (hv : ∀ d, a.tmps.getD d undef = vs d) : a = puts vs a0 ops.toList := by
  have T := textT_of hT
  have hin : ∀ o ∈ ops.toList, ∀ e, o.dst = some e → e < a0.tmps.size := fun o ho e he => by
    obtain ⟨i, hi⟩ := List.getElem?_of_mem ho
    have := T.d i o e (by simpa using hi) he
    rw [hn] at this
    exact this
  obtain ⟨s1, s2⟩ := puts_size vs ops.toList a0
  obtain ⟨ta, da⟩ := a
  obtain ⟨h1, h2, h3⟩ := hb
  have e1 : ta = (puts vs a0 ops.toList).tmps := by
    apply Array.ext
    · rw [s1]; exact h2
    · intro i hi hi'
      have g := puts_get vs i ops.toList a0 hin
      have l : ta[i] = ta.getD i undef := by simp [Array.getD_eq_getD_getElem?, hi]
      have r : (puts vs a0 ops.toList).tmps[i] = (puts vs a0 ops.toList).tmps.getD i undef := by simp only [Array.getD_eq_getD_getElem?, Array.getElem?_eq_getElem hi', Option.getD_some]
      rw [l, r, g]
      by_cases c : ops.toList.any (fun o => o.dst == some i) = true
      · rw [if_pos c]; exact hv i
      · rw [if_neg c]
        refine h3 i ?_
        unfold apart
        rw [Array.all_eq_true_iff_forall_mem]
        intro o ho
        have hne : ¬ (o.dst == some i) = true := fun x => c (List.any_eq_true.2 ⟨o, by simpa using ho, x⟩)
        simpa using hne
  have e2 : da = (puts vs a0 ops.toList).defers := h1.trans s2.symm
  subst e1
  subst e2
  rfl
theorem Based.put {a : Act} (hb : Based ops a0 a) {o : Oper} {i : Nat} (ho : ops[i]? = some o) (v : Value) : Based ops a0 (a.put o.dst v) := by
  refine ⟨by rw [put_defers]; exact hb.1, by rw [put_size]; exact hb.2.1, fun d hd => ?_⟩
  rw [put_off]
  · exact hb.2.2 d hd
  · have q := Array.all_eq_true_iff_forall_mem.1 hd o (Array.mem_of_getElem? ho)
    simpa using q
end
end Go.Proofs.Ytcljoaknaegpmaa.Mk
