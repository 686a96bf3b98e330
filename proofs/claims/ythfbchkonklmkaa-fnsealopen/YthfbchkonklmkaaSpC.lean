
/-
  The model's turning and quarter (written by gens/spc.py).
-/
import Derived.Test.YthfbchkonklmkaaCcB
import Derived.Test.YthfbchkonklmkaaRgV
namespace Go.Proofs.Ythfbchkonklmkaa
open Go Go.RowKit

/-- Four places, each another one. -/
structure Ne4 (i j k l : Nat) : Prop where
  ij : i ≠ j
  ik : i ≠ k
  il : i ≠ l
  jk : j ≠ k
  jl : j ≠ l
  kl : k ≠ l
section
variable {ys : List Int} {i j k l n : Nat} (hn : ys.length = n) (ne : Ne4 i j k l) (s : Q4)
theorem set4_i {ys : List Int} {i j k l : Nat} (ne : Ne4 i j k l) (s : Q4) {x : Int} : (put4 ys i j k l s).set i x = put4 ys i j k l ⟨x, s.b, s.c, s.d⟩ := by
  unfold put4
  rw [List.set_comm _ _ (Ne.symm ne.il), List.set_comm _ _ (Ne.symm ne.ik), List.set_comm _ _ (Ne.symm ne.ij), List.set_set]
theorem set4_j {ys : List Int} {i j k l : Nat} (ne : Ne4 i j k l) (s : Q4) {x : Int} : (put4 ys i j k l s).set j x = put4 ys i j k l ⟨s.a, x, s.c, s.d⟩ := by
  unfold put4
  rw [List.set_comm _ _ (Ne.symm ne.jl), List.set_comm _ _ (Ne.symm ne.jk), List.set_set]
theorem set4_k {ys : List Int} {i j k l : Nat} (ne : Ne4 i j k l) (s : Q4) {x : Int} : (put4 ys i j k l s).set k x = put4 ys i j k l ⟨s.a, s.b, x, s.d⟩ := by
  unfold put4
  rw [List.set_comm _ _ (Ne.symm ne.kl), List.set_set]
theorem set4_l {ys : List Int} {i j k l : Nat} (_ : Ne4 i j k l) (s : Q4) {x : Int} : (put4 ys i j k l s).set l x = put4 ys i j k l ⟨s.a, s.b, s.c, x⟩ := by
  unfold put4
  rw [List.set_set]
theorem put4_i {ys : List Int} {i j k l n : Nat} (hn : ys.length = n) (ne : Ne4 i j k l) (s : Q4) (h : i < n) : (put4 ys i j k l s).getD i 0 = s.a := by
  unfold put4
  rw [getD_set_ne _ _ _ _ (Ne.symm ne.il), getD_set_ne _ _ _ _ (Ne.symm ne.ik), getD_set_ne _ _ _ _ (Ne.symm ne.ij), getD_set_self _ _ _ (by rw [hn]; exact h)]
theorem put4_j {ys : List Int} {i j k l n : Nat} (hn : ys.length = n) (ne : Ne4 i j k l) (s : Q4) (h : j < n) : (put4 ys i j k l s).getD j 0 = s.b := by
  unfold put4
  rw [getD_set_ne _ _ _ _ (Ne.symm ne.jl), getD_set_ne _ _ _ _ (Ne.symm ne.jk), getD_set_self _ _ _ (by rw [List.length_set, hn]; exact h)]
theorem put4_k {ys : List Int} {i j k l n : Nat} (hn : ys.length = n) (ne : Ne4 i j k l) (s : Q4) (h : k < n) : (put4 ys i j k l s).getD k 0 = s.c := by
  unfold put4
  rw [getD_set_ne _ _ _ _ (Ne.symm ne.kl), getD_set_self _ _ _ (by rw [List.length_set, List.length_set, hn]; exact h)]
theorem put4_l {ys : List Int} {i j k l n : Nat} (hn : ys.length = n) (_ : Ne4 i j k l) (s : Q4) (h : l < n) : (put4 ys i j k l s).getD l 0 = s.d := by
  unfold put4
  rw [getD_set_self _ _ _ (by rw [List.length_set, List.length_set, List.length_set, hn]; exact h)]
theorem put4_self {ys : List Int} {i j k l : Nat} (ne : Ne4 i j k l) : put4 ys i j k l (get4 ys i j k l) = ys := by
  refine eq_of_getD (put4_len _ _ _ _ _ _) (fun m hm => ?_)
  rw [put4_len] at hm
  by_cases h1 : l = m
  · subst h1; exact put4_l rfl ne _ hm
  by_cases h2 : k = m
  · subst h2; exact put4_k rfl ne _ hm
  by_cases h3 : j = m
  · subst h3; exact put4_j rfl ne _ hm
  by_cases h4 : i = m
  · subst h4; exact put4_i rfl ne _ hm
  unfold put4
  rw [getD_set_ne _ _ _ _ h1, getD_set_ne _ _ _ _ h2, getD_set_ne _ _ _ _ h3, getD_set_ne _ _ _ _ h4]
end
set_option maxHeartbeats 1000000 in
theorem left_any (w : World) (x : Int) (h : W4 x) (n : Nat) (h0 : 0 < n) (h1 : n < 32) : Calls Try.prog 82 #[.int .u32 x, .int .u64 (n : Int)] w fun e w' => ∃ v, e = .returned v ∧ Below w.heap.size w w' ∧ v = .int .u32 (lf x n) := by
  obtain ⟨x0, x1⟩ := h
  go_enter Try.func82, Try.ntmps82
  go_wp2
  go_ret
  exact ⟨_, rfl, Below.refl _ _, rfl⟩
theorem info16 : (Try.prog.info? 46).map (·.size) = some 16 := by kernel_rfl
theorem und16 : Try.prog.underlying 46 = some (.array 16 45) := by kernel_rfl
set_option maxRecDepth 100000 in
set_option maxHeartbeats 8000000 in
theorem l8Quarter_any (w : World) (ys : List Int) (hw : Ws ys) (hl0 : ys.length = 16) (x1 x2 x3 x4 : Nat) (hi : x1 < 16) (hj : x2 < 16) (hk : x3 < 16) (hll : x4 < 16) (ne : Ne4 x1 x2 x3 x4) :
    Calls Try.prog 76 #[ag .u32 ys, .int .i64 (x1 : Int), .int .i64 (x2 : Int), .int .i64 (x3 : Int), .int .i64 (x4 : Int)] w fun e w' => e = .returned (ag .u32 (qrL ys x1 x2 x3 x4)) ∧ Below w.heap.size w w' := by
  have B0 := blk_alloc w .u32 46 ys
  have n0 : Below w.heap.size w (w.alloc (.cells (ys.map (Value.int .u32)).toArray 46)) := (Below.refl _ _).alloc (Nat.le_refl _) _
  have z0 : (w.alloc (.cells (ys.map (Value.int .u32)).toArray 46)).heap.size = w.heap.size + 1 := by simp
  have HL := hide hl0
  have hl := hll
  clear hl0 hll
  have pi : (x1 : Int) < 16 := by omega
  have pj : (x2 : Int) < 16 := by omega
  have pk : (x3 : Int) < 16 := by omega
  have pl : (x4 : Int) < 16 := by omega
  have so := hw.get4 x1 x2 x3 x4
  have so1 := qH_ok so 16 12
  have L1 := fun u => hide (left_any u _ (xor_w4 so.2.2.2 (qA_w (get4 ys x1 x2 x3 x4))) 16 (by decide) (by decide))
  have L2 := fun u => hide (left_any u _ (xor_w4 so.2.1 (qC_w (get4 ys x1 x2 x3 x4) 16)) 12 (by decide) (by decide))
  have L3 := fun u => hide (left_any u _ (xor_w4 so1.2.2.2 (qA_w (qH (get4 ys x1 x2 x3 x4) 16 12))) 8 (by decide) (by decide))
  have L4 := fun u => hide (left_any u _ (xor_w4 so1.2.1 (qC_w (qH (get4 ys x1 x2 x3 x4) 16 12) 8)) 7 (by decide) (by decide))
  have hB : Blk (w.alloc (.cells (ys.map (Value.int .u32)).toArray 46)) w.heap.size .u32 (put4 ys x1 x2 x3 x4 (get4 ys x1 x2 x3 x4)) := by rw [put4_self ne]; exact B0
  have QE : Hid (qrL ys x1 x2 x3 x4 = put4 ys x1 x2 x3 x4 (qr (get4 ys x1 x2 x3 x4))) := rfl
  rw [QE.out]
  clear QE so so1
  obtain ⟨s0, hs0⟩ : ∃ s, s = get4 ys x1 x2 x3 x4 := ⟨_, rfl⟩
  rw [← hs0] at hB ⊢
  simp only [← hs0] at L1 L2 L3 L4
  clear hs0 hw B0
  obtain ⟨A, B, C, D⟩ := s0
  have E0 : Hid (qr ⟨A, B, C, D⟩ = ⟨qA (qH ⟨A, B, C, D⟩ 16 12), qB (qH ⟨A, B, C, D⟩ 16 12) 8 7, qC (qH ⟨A, B, C, D⟩ 16 12) 8, qD (qH ⟨A, B, C, D⟩ 16 12) 8⟩) := rfl
  rw [E0.out]
  clear E0
  have f1 : Hid ((A + B) % 4294967296 = qA ⟨A, B, C, D⟩) := rfl
  have f3 : Hid ((C + qD ⟨A, B, C, D⟩ 16) % 4294967296 = qC ⟨A, B, C, D⟩ 16) := rfl
  have f5 : Hid ((qA ⟨A, B, C, D⟩ + qB ⟨A, B, C, D⟩ 16 12) % 4294967296 = qA (qH ⟨A, B, C, D⟩ 16 12)) := rfl
  have f7 : Hid ((qC ⟨A, B, C, D⟩ 16 + qD (qH ⟨A, B, C, D⟩ 16 12) 8) % 4294967296 = qC (qH ⟨A, B, C, D⟩ 16 12) 8) := rfl
  have L1 : ∀ u, Hid (Calls Try.prog 82 #[.int .u32 (bits BinOp.xor IntKind.u32 D (qA ⟨A, B, C, D⟩)), .int .u64 16] u fun e w' => ∃ v, e = .returned v ∧ Below u.heap.size u w' ∧ v = .int .u32 (qD ⟨A, B, C, D⟩ 16)) := L1
  have L2 : ∀ u, Hid (Calls Try.prog 82 #[.int .u32 (bits BinOp.xor IntKind.u32 B (qC ⟨A, B, C, D⟩ 16)), .int .u64 12] u fun e w' => ∃ v, e = .returned v ∧ Below u.heap.size u w' ∧ v = .int .u32 (qB ⟨A, B, C, D⟩ 16 12)) := L2
  have L3 : ∀ u, Hid (Calls Try.prog 82 #[.int .u32 (bits BinOp.xor IntKind.u32 (qD ⟨A, B, C, D⟩ 16) (qA (qH ⟨A, B, C, D⟩ 16 12))), .int .u64 8] u fun e w' => ∃ v, e = .returned v ∧ Below u.heap.size u w' ∧ v = .int .u32 (qD (qH ⟨A, B, C, D⟩ 16 12) 8)) := L3
  have L4 : ∀ u, Hid (Calls Try.prog 82 #[.int .u32 (bits BinOp.xor IntKind.u32 (qB ⟨A, B, C, D⟩ 16 12) (qC (qH ⟨A, B, C, D⟩ 16 12) 8)), .int .u64 7] u fun e w' => ∃ v, e = .returned v ∧ Below u.heap.size u w' ∧ v = .int .u32 (qB (qH ⟨A, B, C, D⟩ 16 12) 8 7)) := L4
  generalize qA (qH ⟨A, B, C, D⟩ 16 12) = A2 at *
  generalize qB (qH ⟨A, B, C, D⟩ 16 12) 8 7 = B2 at *
  generalize qC (qH ⟨A, B, C, D⟩ 16 12) 8 = C2 at *
  generalize qD (qH ⟨A, B, C, D⟩ 16 12) 8 = D2 at *
  generalize qA ⟨A, B, C, D⟩ = A1 at *
  generalize qD ⟨A, B, C, D⟩ 16 = D1 at *
  generalize qC ⟨A, B, C, D⟩ 16 = C1 at *
  generalize qB ⟨A, B, C, D⟩ 16 12 = B1 at *
  have VY : Hid (ag .u32 ys = Value.agg (ys.map (Value.int .u32)).toArray) := rfl
  rw [VY.out]
  obtain ⟨vs0, hvs0⟩ : ∃ vs, vs = ys.map (Value.int .u32) := ⟨_, rfl⟩
  rw [← hvs0] at hB n0 z0 ⊢
  clear hvs0 VY
  go_enter Try.func76, Try.ntmps76
  go_upto_region 1 with fail
  generalize w.alloc (.cells vs0.toArray 46) = wa at *
  have n1 : Below wa.heap.size wa (wa.alloc (.cells #[.int .u32 0, .int .u32 0, .int .u32 0, .int .u32 0, .int .u32 0, .int .u32 0, .int .u32 0, .int .u32 0, .int .u32 0, .int .u32 0, .int .u32 0, .int .u32 0, .int .u32 0, .int .u32 0, .int .u32 0, .int .u32 0] 46)) := (Below.refl _ _).alloc (Nat.le_refl _) _
  have hZ := blk_z16 wa 46
  generalize wa.alloc (.cells #[.int .u32 0, .int .u32 0, .int .u32 0, .int .u32 0, .int .u32 0, .int .u32 0, .int .u32 0, .int .u32 0, .int .u32 0, .int .u32 0, .int .u32 0, .int .u32 0, .int .u32 0, .int .u32 0, .int .u32 0, .int .u32 0] 46) = wr0 at *
  rw [z0] at hZ
  replace hB := hB.up n1
  have hN := nxt n0 n1
  clear n0 n1 z0
  have cx : ∀ u, Below wr0.heap.size wr0 u → u.cell? ⟨w.heap.size, x1, none⟩ = some (.int .u32 A) := fun u hu => by
    have := (hB.up hu).cell (i := x1) (by rw [put4_len, HL.out]; exact hi)
    rw [put4_i HL.out ne ⟨A, B, C, D⟩ hi] at this
    exact this
  have cy : ∀ u, Below wr0.heap.size wr0 u → u.cell? ⟨w.heap.size, x2, none⟩ = some (.int .u32 B) := fun u hu => by
    have := (hB.up hu).cell (i := x2) (by rw [put4_len, HL.out]; exact hj)
    rw [put4_j HL.out ne ⟨A, B, C, D⟩ hj] at this
    exact this
  go_wp2_with fail
  refine region_store 9 _ (fun i => [Fact.eq (.int .i64 (x1 : Int)), Fact.eq (.int .i64 (x1 : Int)), Fact.eq (.pointer (some ⟨w.heap.size, x1, none⟩)), Fact.eq (.int .u32 A), Fact.eq (.int .i64 (x2 : Int)), Fact.eq (.pointer (some ⟨w.heap.size, x2, none⟩)), Fact.eq (.int .u32 B), Fact.eq (.int .u32 A1), Fact.eq (.pointer (some ⟨w.heap.size, x1, none⟩))].getD i Fact.no) (by kernel_rfl) (by kernel_rfl) rfl rfl ?_ ?_
  · skip
    intro i hi
    obtain rfl | rfl | rfl | rfl | rfl | rfl | rfl | rfl | rfl : i = 0 ∨ i = 1 ∨ i = 2 ∨ i = 3 ∨ i = 4 ∨ i = 5 ∨ i = 6 ∨ i = 7 ∨ i = 8 := by omega
    · refine step_pure rfl fun a u hb hw hf => ?_
      have e1 : a.tmps[1]?.getD undef = .int .i64 (x1 : Int) := gdv (hb.2.2 1 (by kernel_rfl))
      exact ⟨.int .i64 (x1 : Int), by simp [go_sem, e1], rfl⟩
    · refine step_pure rfl fun a u hb hw hf => ?_
      have e1 : a.tmps[1]?.getD undef = .int .i64 (x1 : Int) := gdv (hb.2.2 1 (by kernel_rfl))
      exact ⟨.int .i64 (x1 : Int), by simp [go_sem, e1], rfl⟩
    · refine step_pure rfl fun a u hb hw hf => ?_
      have e5 : a.tmps[5]?.getD undef = .pointer (some ⟨w.heap.size, 0, none⟩) := gdv (hb.2.2 5 (by kernel_rfl))
      have e12 : a.tmps[12]?.getD undef = .int .i64 (x1 : Int) := gdv (hf 1 12 (by kernel_rfl))
      exact ⟨.pointer (some ⟨w.heap.size, x1, none⟩), by simp [go_sem, e5, e12, pi], rfl⟩
    · refine step_pure rfl fun a u hb hw hf => ?_
      have e13 : a.tmps[13]?.getD undef = .pointer (some ⟨w.heap.size, x1, none⟩) := gdv (hf 2 13 (by kernel_rfl))
      have hc := cx _ hw
      exact ⟨.int .u32 A, by simp [go_sem, e13, hc], rfl⟩
    · refine step_pure rfl fun a u hb hw hf => ?_
      have e2 : a.tmps[2]?.getD undef = .int .i64 (x2 : Int) := gdv (hb.2.2 2 (by kernel_rfl))
      exact ⟨.int .i64 (x2 : Int), by simp [go_sem, e2], rfl⟩
    · refine step_pure rfl fun a u hb hw hf => ?_
      have e5 : a.tmps[5]?.getD undef = .pointer (some ⟨w.heap.size, 0, none⟩) := gdv (hb.2.2 5 (by kernel_rfl))
      have e15 : a.tmps[15]?.getD undef = .int .i64 (x2 : Int) := gdv (hf 4 15 (by kernel_rfl))
      exact ⟨.pointer (some ⟨w.heap.size, x2, none⟩), by simp [go_sem, e5, e15, pj], rfl⟩
    · refine step_pure rfl fun a u hb hw hf => ?_
      have e16 : a.tmps[16]?.getD undef = .pointer (some ⟨w.heap.size, x2, none⟩) := gdv (hf 5 16 (by kernel_rfl))
      have hc := cy _ hw
      exact ⟨.int .u32 B, by simp [go_sem, e16, hc], rfl⟩
    · refine step_pure rfl fun a u hb hw hf => ?_
      have e14 : a.tmps[14]?.getD undef = .int .u32 A := gdv (hf 3 14 (by kernel_rfl))
      have e17 : a.tmps[17]?.getD undef = .int .u32 B := gdv (hf 6 17 (by kernel_rfl))
      exact ⟨.int .u32 A1, by simp [go_sem, e14, e17, IntKind.wrap_u32', f1.out], rfl⟩
    · refine step_pure rfl fun a u hb hw hf => ?_
      have e5 : a.tmps[5]?.getD undef = .pointer (some ⟨w.heap.size, 0, none⟩) := gdv (hb.2.2 5 (by kernel_rfl))
      have e11 : a.tmps[11]?.getD undef = .int .i64 (x1 : Int) := gdv (hf 0 11 (by kernel_rfl))
      exact ⟨.pointer (some ⟨w.heap.size, x1, none⟩), by simp [go_sem, e5, e11, pi], rfl⟩
  intro a u hb hw hf
  have ep : a.tmps[19]?.getD undef = .pointer (some ⟨w.heap.size, x1, none⟩) := gdv (hf 8 19 (by kernel_rfl))
  have ev : a.tmps[18]?.getD undef = .int .u32 A1 := gdv (hf 7 18 (by kernel_rfl))
  have hcc := cx u hw
  have hff := (hB.up hw).free x1
  have hB' := (hB.up hw).store x1 A1
  rw [set4_i ne ⟨A, B, C, D⟩] at hB'
  have O2 := Only.setCell u w.heap.size x1 (.int .u32 A1)
  have hZ' := (hZ.up hw).of_block (O2.block (w.heap.size + 1) (by omega))
  have hN' := hN.trans ((hw.mono hN.size).trans (O2.below (Nat.le_refl _)))
  obtain ⟨vs, hvs⟩ : ∃ vs : Nat → Value, ∀ d, a.tmps.getD d undef = vs d := ⟨_, fun _ => rfl⟩
  have ea := puts_of (md := .any) (n := 88) (k := 9) (by kernel_rfl) rfl hb vs hvs
  unfold Oper.wp
  simp [go_sem, ep, ev, hcc, hff]
  rw [ea]
  clear ea hvs ep ev hf hb hcc hff cx cy hB hZ hN hw
  simp only [puts, Act.put, List.setIfInBounds_toArray, List.set_cons_succ, List.set_cons_zero]
  generalize u.setCell ⟨w.heap.size, x1, none⟩ (.int .u32 A1) = wr1 at *
  have hB := hB'
  have hZ := hZ'
  have hN := hN'
  clear O2 hB' hZ' hN'
  have cx : ∀ u, Below wr1.heap.size wr1 u → u.cell? ⟨w.heap.size, x4, none⟩ = some (.int .u32 D) := fun u hu => by
    have := (hB.up hu).cell (i := x4) (by rw [put4_len, HL.out]; exact hl)
    rw [put4_l HL.out ne ⟨A1, B, C, D⟩ hl] at this
    exact this
  have cy : ∀ u, Below wr1.heap.size wr1 u → u.cell? ⟨w.heap.size, x1, none⟩ = some (.int .u32 A1) := fun u hu => by
    have := (hB.up hu).cell (i := x1) (by rw [put4_len, HL.out]; exact hi)
    rw [put4_i HL.out ne ⟨A1, B, C, D⟩ hi] at this
    exact this
  go_wp2_with fail
  refine region_store 10 _ (fun i => [Fact.eq (.int .i64 (x4 : Int)), Fact.eq (.int .i64 (x4 : Int)), Fact.eq (.pointer (some ⟨w.heap.size, x4, none⟩)), Fact.eq (.int .u32 D), Fact.eq (.int .i64 (x1 : Int)), Fact.eq (.pointer (some ⟨w.heap.size, x1, none⟩)), Fact.eq (.int .u32 A1), Fact.eq (.int .u32 (bits BinOp.xor IntKind.u32 D A1)), Fact.eq (.int .u32 D1), Fact.eq (.pointer (some ⟨w.heap.size, x4, none⟩))].getD i Fact.no) (by kernel_rfl) (by kernel_rfl) rfl rfl ?_ ?_
  · skip
    intro i hi
    obtain rfl | rfl | rfl | rfl | rfl | rfl | rfl | rfl | rfl | rfl : i = 0 ∨ i = 1 ∨ i = 2 ∨ i = 3 ∨ i = 4 ∨ i = 5 ∨ i = 6 ∨ i = 7 ∨ i = 8 ∨ i = 9 := by omega
    · refine step_pure rfl fun a u hb hw hf => ?_
      have e4 : a.tmps[4]?.getD undef = .int .i64 (x4 : Int) := gdv (hb.2.2 4 (by kernel_rfl))
      exact ⟨.int .i64 (x4 : Int), by simp [go_sem, e4], rfl⟩
    · refine step_pure rfl fun a u hb hw hf => ?_
      have e4 : a.tmps[4]?.getD undef = .int .i64 (x4 : Int) := gdv (hb.2.2 4 (by kernel_rfl))
      exact ⟨.int .i64 (x4 : Int), by simp [go_sem, e4], rfl⟩
    · refine step_pure rfl fun a u hb hw hf => ?_
      have e5 : a.tmps[5]?.getD undef = .pointer (some ⟨w.heap.size, 0, none⟩) := gdv (hb.2.2 5 (by kernel_rfl))
      have e21 : a.tmps[21]?.getD undef = .int .i64 (x4 : Int) := gdv (hf 1 21 (by kernel_rfl))
      exact ⟨.pointer (some ⟨w.heap.size, x4, none⟩), by simp [go_sem, e5, e21, pl], rfl⟩
    · refine step_pure rfl fun a u hb hw hf => ?_
      have e22 : a.tmps[22]?.getD undef = .pointer (some ⟨w.heap.size, x4, none⟩) := gdv (hf 2 22 (by kernel_rfl))
      have hc := cx _ hw
      exact ⟨.int .u32 D, by simp [go_sem, e22, hc], rfl⟩
    · refine step_pure rfl fun a u hb hw hf => ?_
      have e1 : a.tmps[1]?.getD undef = .int .i64 (x1 : Int) := gdv (hb.2.2 1 (by kernel_rfl))
      exact ⟨.int .i64 (x1 : Int), by simp [go_sem, e1], rfl⟩
    · refine step_pure rfl fun a u hb hw hf => ?_
      have e5 : a.tmps[5]?.getD undef = .pointer (some ⟨w.heap.size, 0, none⟩) := gdv (hb.2.2 5 (by kernel_rfl))
      have e24 : a.tmps[24]?.getD undef = .int .i64 (x1 : Int) := gdv (hf 4 24 (by kernel_rfl))
      exact ⟨.pointer (some ⟨w.heap.size, x1, none⟩), by simp [go_sem, e5, e24, pi], rfl⟩
    · refine step_pure rfl fun a u hb hw hf => ?_
      have e25 : a.tmps[25]?.getD undef = .pointer (some ⟨w.heap.size, x1, none⟩) := gdv (hf 5 25 (by kernel_rfl))
      have hc := cy _ hw
      exact ⟨.int .u32 A1, by simp [go_sem, e25, hc], rfl⟩
    · refine step_pure rfl fun a u hb hw hf => ?_
      have e23 : a.tmps[23]?.getD undef = .int .u32 D := gdv (hf 3 23 (by kernel_rfl))
      have e26 : a.tmps[26]?.getD undef = .int .u32 A1 := gdv (hf 6 26 (by kernel_rfl))
      exact ⟨.int .u32 (bits BinOp.xor IntKind.u32 D A1), by simp [go_sem, e23, e26], rfl⟩
    · refine step_callv rfl 82 _ _ rfl (by kernel_rfl) fun a u hb hw hf => ?_
      have e27 : a.tmps.getD 27 undef = .int .u32 (bits BinOp.xor IntKind.u32 D A1) := hf 7 27 (by kernel_rfl)
      show Calls Try.prog 82 #[a.tmps.getD 27 undef, .int .u64 16] u _
      rw [e27]
      exact (L1 u).out
    · refine step_pure rfl fun a u hb hw hf => ?_
      have e5 : a.tmps[5]?.getD undef = .pointer (some ⟨w.heap.size, 0, none⟩) := gdv (hb.2.2 5 (by kernel_rfl))
      have e20 : a.tmps[20]?.getD undef = .int .i64 (x4 : Int) := gdv (hf 0 20 (by kernel_rfl))
      exact ⟨.pointer (some ⟨w.heap.size, x4, none⟩), by simp [go_sem, e5, e20, pl], rfl⟩
  intro a u hb hw hf
  have ep : a.tmps[29]?.getD undef = .pointer (some ⟨w.heap.size, x4, none⟩) := gdv (hf 9 29 (by kernel_rfl))
  have ev : a.tmps[28]?.getD undef = .int .u32 D1 := gdv (hf 8 28 (by kernel_rfl))
  have hcc := cx u hw
  have hff := (hB.up hw).free x4
  have hB' := (hB.up hw).store x4 D1
  rw [set4_l ne ⟨A1, B, C, D⟩] at hB'
  have O2 := Only.setCell u w.heap.size x4 (.int .u32 D1)
  have hZ' := (hZ.up hw).of_block (O2.block (w.heap.size + 1) (by omega))
  have hN' := hN.trans ((hw.mono hN.size).trans (O2.below (Nat.le_refl _)))
  obtain ⟨vs, hvs⟩ : ∃ vs : Nat → Value, ∀ d, a.tmps.getD d undef = vs d := ⟨_, fun _ => rfl⟩
  have ea := puts_of (md := .any) (n := 88) (k := 10) (by kernel_rfl) rfl hb vs hvs
  unfold Oper.wp
  simp [go_sem, ep, ev, hcc, hff]
  rw [ea]
  clear ea hvs ep ev hf hb hcc hff cx cy hB hZ hN hw
  simp only [puts, Act.put, List.setIfInBounds_toArray, List.set_cons_succ, List.set_cons_zero]
  generalize u.setCell ⟨w.heap.size, x4, none⟩ (.int .u32 D1) = wr2 at *
  have hB := hB'
  have hZ := hZ'
  have hN := hN'
  clear O2 hB' hZ' hN'
  have cx : ∀ u, Below wr2.heap.size wr2 u → u.cell? ⟨w.heap.size, x3, none⟩ = some (.int .u32 C) := fun u hu => by
    have := (hB.up hu).cell (i := x3) (by rw [put4_len, HL.out]; exact hk)
    rw [put4_k HL.out ne ⟨A1, B, C, D1⟩ hk] at this
    exact this
  have cy : ∀ u, Below wr2.heap.size wr2 u → u.cell? ⟨w.heap.size, x4, none⟩ = some (.int .u32 D1) := fun u hu => by
    have := (hB.up hu).cell (i := x4) (by rw [put4_len, HL.out]; exact hl)
    rw [put4_l HL.out ne ⟨A1, B, C, D1⟩ hl] at this
    exact this
  go_wp2_with fail
  refine region_store 9 _ (fun i => [Fact.eq (.int .i64 (x3 : Int)), Fact.eq (.int .i64 (x3 : Int)), Fact.eq (.pointer (some ⟨w.heap.size, x3, none⟩)), Fact.eq (.int .u32 C), Fact.eq (.int .i64 (x4 : Int)), Fact.eq (.pointer (some ⟨w.heap.size, x4, none⟩)), Fact.eq (.int .u32 D1), Fact.eq (.int .u32 C1), Fact.eq (.pointer (some ⟨w.heap.size, x3, none⟩))].getD i Fact.no) (by kernel_rfl) (by kernel_rfl) rfl rfl ?_ ?_
  · skip
    intro i hi
    obtain rfl | rfl | rfl | rfl | rfl | rfl | rfl | rfl | rfl : i = 0 ∨ i = 1 ∨ i = 2 ∨ i = 3 ∨ i = 4 ∨ i = 5 ∨ i = 6 ∨ i = 7 ∨ i = 8 := by omega
    · refine step_pure rfl fun a u hb hw hf => ?_
      have e3 : a.tmps[3]?.getD undef = .int .i64 (x3 : Int) := gdv (hb.2.2 3 (by kernel_rfl))
      exact ⟨.int .i64 (x3 : Int), by simp [go_sem, e3], rfl⟩
    · refine step_pure rfl fun a u hb hw hf => ?_
      have e3 : a.tmps[3]?.getD undef = .int .i64 (x3 : Int) := gdv (hb.2.2 3 (by kernel_rfl))
      exact ⟨.int .i64 (x3 : Int), by simp [go_sem, e3], rfl⟩
    · refine step_pure rfl fun a u hb hw hf => ?_
      have e5 : a.tmps[5]?.getD undef = .pointer (some ⟨w.heap.size, 0, none⟩) := gdv (hb.2.2 5 (by kernel_rfl))
      have e31 : a.tmps[31]?.getD undef = .int .i64 (x3 : Int) := gdv (hf 1 31 (by kernel_rfl))
      exact ⟨.pointer (some ⟨w.heap.size, x3, none⟩), by simp [go_sem, e5, e31, pk], rfl⟩
    · refine step_pure rfl fun a u hb hw hf => ?_
      have e32 : a.tmps[32]?.getD undef = .pointer (some ⟨w.heap.size, x3, none⟩) := gdv (hf 2 32 (by kernel_rfl))
      have hc := cx _ hw
      exact ⟨.int .u32 C, by simp [go_sem, e32, hc], rfl⟩
    · refine step_pure rfl fun a u hb hw hf => ?_
      have e4 : a.tmps[4]?.getD undef = .int .i64 (x4 : Int) := gdv (hb.2.2 4 (by kernel_rfl))
      exact ⟨.int .i64 (x4 : Int), by simp [go_sem, e4], rfl⟩
    · refine step_pure rfl fun a u hb hw hf => ?_
      have e5 : a.tmps[5]?.getD undef = .pointer (some ⟨w.heap.size, 0, none⟩) := gdv (hb.2.2 5 (by kernel_rfl))
      have e34 : a.tmps[34]?.getD undef = .int .i64 (x4 : Int) := gdv (hf 4 34 (by kernel_rfl))
      exact ⟨.pointer (some ⟨w.heap.size, x4, none⟩), by simp [go_sem, e5, e34, pl], rfl⟩
    · refine step_pure rfl fun a u hb hw hf => ?_
      have e35 : a.tmps[35]?.getD undef = .pointer (some ⟨w.heap.size, x4, none⟩) := gdv (hf 5 35 (by kernel_rfl))
      have hc := cy _ hw
      exact ⟨.int .u32 D1, by simp [go_sem, e35, hc], rfl⟩
    · refine step_pure rfl fun a u hb hw hf => ?_
      have e33 : a.tmps[33]?.getD undef = .int .u32 C := gdv (hf 3 33 (by kernel_rfl))
      have e36 : a.tmps[36]?.getD undef = .int .u32 D1 := gdv (hf 6 36 (by kernel_rfl))
      exact ⟨.int .u32 C1, by simp [go_sem, e33, e36, IntKind.wrap_u32', f3.out], rfl⟩
    · refine step_pure rfl fun a u hb hw hf => ?_
      have e5 : a.tmps[5]?.getD undef = .pointer (some ⟨w.heap.size, 0, none⟩) := gdv (hb.2.2 5 (by kernel_rfl))
      have e30 : a.tmps[30]?.getD undef = .int .i64 (x3 : Int) := gdv (hf 0 30 (by kernel_rfl))
      exact ⟨.pointer (some ⟨w.heap.size, x3, none⟩), by simp [go_sem, e5, e30, pk], rfl⟩
  intro a u hb hw hf
  have ep : a.tmps[38]?.getD undef = .pointer (some ⟨w.heap.size, x3, none⟩) := gdv (hf 8 38 (by kernel_rfl))
  have ev : a.tmps[37]?.getD undef = .int .u32 C1 := gdv (hf 7 37 (by kernel_rfl))
  have hcc := cx u hw
  have hff := (hB.up hw).free x3
  have hB' := (hB.up hw).store x3 C1
  rw [set4_k ne ⟨A1, B, C, D1⟩] at hB'
  have O2 := Only.setCell u w.heap.size x3 (.int .u32 C1)
  have hZ' := (hZ.up hw).of_block (O2.block (w.heap.size + 1) (by omega))
  have hN' := hN.trans ((hw.mono hN.size).trans (O2.below (Nat.le_refl _)))
  obtain ⟨vs, hvs⟩ : ∃ vs : Nat → Value, ∀ d, a.tmps.getD d undef = vs d := ⟨_, fun _ => rfl⟩
  have ea := puts_of (md := .any) (n := 88) (k := 9) (by kernel_rfl) rfl hb vs hvs
  unfold Oper.wp
  simp [go_sem, ep, ev, hcc, hff]
  rw [ea]
  clear ea hvs ep ev hf hb hcc hff cx cy hB hZ hN hw
  simp only [puts, Act.put, List.setIfInBounds_toArray, List.set_cons_succ, List.set_cons_zero]
  generalize u.setCell ⟨w.heap.size, x3, none⟩ (.int .u32 C1) = wr3 at *
  have hB := hB'
  have hZ := hZ'
  have hN := hN'
  clear O2 hB' hZ' hN'
  have cx : ∀ u, Below wr3.heap.size wr3 u → u.cell? ⟨w.heap.size, x2, none⟩ = some (.int .u32 B) := fun u hu => by
    have := (hB.up hu).cell (i := x2) (by rw [put4_len, HL.out]; exact hj)
    rw [put4_j HL.out ne ⟨A1, B, C1, D1⟩ hj] at this
    exact this
  have cy : ∀ u, Below wr3.heap.size wr3 u → u.cell? ⟨w.heap.size, x3, none⟩ = some (.int .u32 C1) := fun u hu => by
    have := (hB.up hu).cell (i := x3) (by rw [put4_len, HL.out]; exact hk)
    rw [put4_k HL.out ne ⟨A1, B, C1, D1⟩ hk] at this
    exact this
  go_wp2_with fail
  refine region_store 10 _ (fun i => [Fact.eq (.int .i64 (x2 : Int)), Fact.eq (.int .i64 (x2 : Int)), Fact.eq (.pointer (some ⟨w.heap.size, x2, none⟩)), Fact.eq (.int .u32 B), Fact.eq (.int .i64 (x3 : Int)), Fact.eq (.pointer (some ⟨w.heap.size, x3, none⟩)), Fact.eq (.int .u32 C1), Fact.eq (.int .u32 (bits BinOp.xor IntKind.u32 B C1)), Fact.eq (.int .u32 B1), Fact.eq (.pointer (some ⟨w.heap.size, x2, none⟩))].getD i Fact.no) (by kernel_rfl) (by kernel_rfl) rfl rfl ?_ ?_
  · skip
    intro i hi
    obtain rfl | rfl | rfl | rfl | rfl | rfl | rfl | rfl | rfl | rfl : i = 0 ∨ i = 1 ∨ i = 2 ∨ i = 3 ∨ i = 4 ∨ i = 5 ∨ i = 6 ∨ i = 7 ∨ i = 8 ∨ i = 9 := by omega
    · refine step_pure rfl fun a u hb hw hf => ?_
      have e2 : a.tmps[2]?.getD undef = .int .i64 (x2 : Int) := gdv (hb.2.2 2 (by kernel_rfl))
      exact ⟨.int .i64 (x2 : Int), by simp [go_sem, e2], rfl⟩
    · refine step_pure rfl fun a u hb hw hf => ?_
      have e2 : a.tmps[2]?.getD undef = .int .i64 (x2 : Int) := gdv (hb.2.2 2 (by kernel_rfl))
      exact ⟨.int .i64 (x2 : Int), by simp [go_sem, e2], rfl⟩
    · refine step_pure rfl fun a u hb hw hf => ?_
      have e5 : a.tmps[5]?.getD undef = .pointer (some ⟨w.heap.size, 0, none⟩) := gdv (hb.2.2 5 (by kernel_rfl))
      have e40 : a.tmps[40]?.getD undef = .int .i64 (x2 : Int) := gdv (hf 1 40 (by kernel_rfl))
      exact ⟨.pointer (some ⟨w.heap.size, x2, none⟩), by simp [go_sem, e5, e40, pj], rfl⟩
    · refine step_pure rfl fun a u hb hw hf => ?_
      have e41 : a.tmps[41]?.getD undef = .pointer (some ⟨w.heap.size, x2, none⟩) := gdv (hf 2 41 (by kernel_rfl))
      have hc := cx _ hw
      exact ⟨.int .u32 B, by simp [go_sem, e41, hc], rfl⟩
    · refine step_pure rfl fun a u hb hw hf => ?_
      have e3 : a.tmps[3]?.getD undef = .int .i64 (x3 : Int) := gdv (hb.2.2 3 (by kernel_rfl))
      exact ⟨.int .i64 (x3 : Int), by simp [go_sem, e3], rfl⟩
    · refine step_pure rfl fun a u hb hw hf => ?_
      have e5 : a.tmps[5]?.getD undef = .pointer (some ⟨w.heap.size, 0, none⟩) := gdv (hb.2.2 5 (by kernel_rfl))
      have e43 : a.tmps[43]?.getD undef = .int .i64 (x3 : Int) := gdv (hf 4 43 (by kernel_rfl))
      exact ⟨.pointer (some ⟨w.heap.size, x3, none⟩), by simp [go_sem, e5, e43, pk], rfl⟩
    · refine step_pure rfl fun a u hb hw hf => ?_
      have e44 : a.tmps[44]?.getD undef = .pointer (some ⟨w.heap.size, x3, none⟩) := gdv (hf 5 44 (by kernel_rfl))
      have hc := cy _ hw
      exact ⟨.int .u32 C1, by simp [go_sem, e44, hc], rfl⟩
    · refine step_pure rfl fun a u hb hw hf => ?_
      have e42 : a.tmps[42]?.getD undef = .int .u32 B := gdv (hf 3 42 (by kernel_rfl))
      have e45 : a.tmps[45]?.getD undef = .int .u32 C1 := gdv (hf 6 45 (by kernel_rfl))
      exact ⟨.int .u32 (bits BinOp.xor IntKind.u32 B C1), by simp [go_sem, e42, e45], rfl⟩
    · refine step_callv rfl 82 _ _ rfl (by kernel_rfl) fun a u hb hw hf => ?_
      have e46 : a.tmps.getD 46 undef = .int .u32 (bits BinOp.xor IntKind.u32 B C1) := hf 7 46 (by kernel_rfl)
      show Calls Try.prog 82 #[a.tmps.getD 46 undef, .int .u64 12] u _
      rw [e46]
      exact (L2 u).out
    · refine step_pure rfl fun a u hb hw hf => ?_
      have e5 : a.tmps[5]?.getD undef = .pointer (some ⟨w.heap.size, 0, none⟩) := gdv (hb.2.2 5 (by kernel_rfl))
      have e39 : a.tmps[39]?.getD undef = .int .i64 (x2 : Int) := gdv (hf 0 39 (by kernel_rfl))
      exact ⟨.pointer (some ⟨w.heap.size, x2, none⟩), by simp [go_sem, e5, e39, pj], rfl⟩
  intro a u hb hw hf
  have ep : a.tmps[48]?.getD undef = .pointer (some ⟨w.heap.size, x2, none⟩) := gdv (hf 9 48 (by kernel_rfl))
  have ev : a.tmps[47]?.getD undef = .int .u32 B1 := gdv (hf 8 47 (by kernel_rfl))
  have hcc := cx u hw
  have hff := (hB.up hw).free x2
  have hB' := (hB.up hw).store x2 B1
  rw [set4_j ne ⟨A1, B, C1, D1⟩] at hB'
  have O2 := Only.setCell u w.heap.size x2 (.int .u32 B1)
  have hZ' := (hZ.up hw).of_block (O2.block (w.heap.size + 1) (by omega))
  have hN' := hN.trans ((hw.mono hN.size).trans (O2.below (Nat.le_refl _)))
  obtain ⟨vs, hvs⟩ : ∃ vs : Nat → Value, ∀ d, a.tmps.getD d undef = vs d := ⟨_, fun _ => rfl⟩
  have ea := puts_of (md := .any) (n := 88) (k := 10) (by kernel_rfl) rfl hb vs hvs
  unfold Oper.wp
  simp [go_sem, ep, ev, hcc, hff]
  rw [ea]
  clear ea hvs ep ev hf hb hcc hff cx cy hB hZ hN hw
  simp only [puts, Act.put, List.setIfInBounds_toArray, List.set_cons_succ, List.set_cons_zero]
  generalize u.setCell ⟨w.heap.size, x2, none⟩ (.int .u32 B1) = wr4 at *
  have hB := hB'
  have hZ := hZ'
  have hN := hN'
  clear O2 hB' hZ' hN'
  have cx : ∀ u, Below wr4.heap.size wr4 u → u.cell? ⟨w.heap.size, x1, none⟩ = some (.int .u32 A1) := fun u hu => by
    have := (hB.up hu).cell (i := x1) (by rw [put4_len, HL.out]; exact hi)
    rw [put4_i HL.out ne ⟨A1, B1, C1, D1⟩ hi] at this
    exact this
  have cy : ∀ u, Below wr4.heap.size wr4 u → u.cell? ⟨w.heap.size, x2, none⟩ = some (.int .u32 B1) := fun u hu => by
    have := (hB.up hu).cell (i := x2) (by rw [put4_len, HL.out]; exact hj)
    rw [put4_j HL.out ne ⟨A1, B1, C1, D1⟩ hj] at this
    exact this
  go_wp2_with fail
  refine region_store 9 _ (fun i => [Fact.eq (.int .i64 (x1 : Int)), Fact.eq (.int .i64 (x1 : Int)), Fact.eq (.pointer (some ⟨w.heap.size, x1, none⟩)), Fact.eq (.int .u32 A1), Fact.eq (.int .i64 (x2 : Int)), Fact.eq (.pointer (some ⟨w.heap.size, x2, none⟩)), Fact.eq (.int .u32 B1), Fact.eq (.int .u32 A2), Fact.eq (.pointer (some ⟨w.heap.size, x1, none⟩))].getD i Fact.no) (by kernel_rfl) (by kernel_rfl) rfl rfl ?_ ?_
  · skip
    intro i hi
    obtain rfl | rfl | rfl | rfl | rfl | rfl | rfl | rfl | rfl : i = 0 ∨ i = 1 ∨ i = 2 ∨ i = 3 ∨ i = 4 ∨ i = 5 ∨ i = 6 ∨ i = 7 ∨ i = 8 := by omega
    · refine step_pure rfl fun a u hb hw hf => ?_
      have e1 : a.tmps[1]?.getD undef = .int .i64 (x1 : Int) := gdv (hb.2.2 1 (by kernel_rfl))
      exact ⟨.int .i64 (x1 : Int), by simp [go_sem, e1], rfl⟩
    · refine step_pure rfl fun a u hb hw hf => ?_
      have e1 : a.tmps[1]?.getD undef = .int .i64 (x1 : Int) := gdv (hb.2.2 1 (by kernel_rfl))
      exact ⟨.int .i64 (x1 : Int), by simp [go_sem, e1], rfl⟩
    · refine step_pure rfl fun a u hb hw hf => ?_
      have e5 : a.tmps[5]?.getD undef = .pointer (some ⟨w.heap.size, 0, none⟩) := gdv (hb.2.2 5 (by kernel_rfl))
      have e50 : a.tmps[50]?.getD undef = .int .i64 (x1 : Int) := gdv (hf 1 50 (by kernel_rfl))
      exact ⟨.pointer (some ⟨w.heap.size, x1, none⟩), by simp [go_sem, e5, e50, pi], rfl⟩
    · refine step_pure rfl fun a u hb hw hf => ?_
      have e51 : a.tmps[51]?.getD undef = .pointer (some ⟨w.heap.size, x1, none⟩) := gdv (hf 2 51 (by kernel_rfl))
      have hc := cx _ hw
      exact ⟨.int .u32 A1, by simp [go_sem, e51, hc], rfl⟩
    · refine step_pure rfl fun a u hb hw hf => ?_
      have e2 : a.tmps[2]?.getD undef = .int .i64 (x2 : Int) := gdv (hb.2.2 2 (by kernel_rfl))
      exact ⟨.int .i64 (x2 : Int), by simp [go_sem, e2], rfl⟩
    · refine step_pure rfl fun a u hb hw hf => ?_
      have e5 : a.tmps[5]?.getD undef = .pointer (some ⟨w.heap.size, 0, none⟩) := gdv (hb.2.2 5 (by kernel_rfl))
      have e53 : a.tmps[53]?.getD undef = .int .i64 (x2 : Int) := gdv (hf 4 53 (by kernel_rfl))
      exact ⟨.pointer (some ⟨w.heap.size, x2, none⟩), by simp [go_sem, e5, e53, pj], rfl⟩
    · refine step_pure rfl fun a u hb hw hf => ?_
      have e54 : a.tmps[54]?.getD undef = .pointer (some ⟨w.heap.size, x2, none⟩) := gdv (hf 5 54 (by kernel_rfl))
      have hc := cy _ hw
      exact ⟨.int .u32 B1, by simp [go_sem, e54, hc], rfl⟩
    · refine step_pure rfl fun a u hb hw hf => ?_
      have e52 : a.tmps[52]?.getD undef = .int .u32 A1 := gdv (hf 3 52 (by kernel_rfl))
      have e55 : a.tmps[55]?.getD undef = .int .u32 B1 := gdv (hf 6 55 (by kernel_rfl))
      exact ⟨.int .u32 A2, by simp [go_sem, e52, e55, IntKind.wrap_u32', f5.out], rfl⟩
    · refine step_pure rfl fun a u hb hw hf => ?_
      have e5 : a.tmps[5]?.getD undef = .pointer (some ⟨w.heap.size, 0, none⟩) := gdv (hb.2.2 5 (by kernel_rfl))
      have e49 : a.tmps[49]?.getD undef = .int .i64 (x1 : Int) := gdv (hf 0 49 (by kernel_rfl))
      exact ⟨.pointer (some ⟨w.heap.size, x1, none⟩), by simp [go_sem, e5, e49, pi], rfl⟩
  intro a u hb hw hf
  have ep : a.tmps[57]?.getD undef = .pointer (some ⟨w.heap.size, x1, none⟩) := gdv (hf 8 57 (by kernel_rfl))
  have ev : a.tmps[56]?.getD undef = .int .u32 A2 := gdv (hf 7 56 (by kernel_rfl))
  have hcc := cx u hw
  have hff := (hB.up hw).free x1
  have hB' := (hB.up hw).store x1 A2
  rw [set4_i ne ⟨A1, B1, C1, D1⟩] at hB'
  have O2 := Only.setCell u w.heap.size x1 (.int .u32 A2)
  have hZ' := (hZ.up hw).of_block (O2.block (w.heap.size + 1) (by omega))
  have hN' := hN.trans ((hw.mono hN.size).trans (O2.below (Nat.le_refl _)))
  obtain ⟨vs, hvs⟩ : ∃ vs : Nat → Value, ∀ d, a.tmps.getD d undef = vs d := ⟨_, fun _ => rfl⟩
  have ea := puts_of (md := .any) (n := 88) (k := 9) (by kernel_rfl) rfl hb vs hvs
  unfold Oper.wp
  simp [go_sem, ep, ev, hcc, hff]
  rw [ea]
  clear ea hvs ep ev hf hb hcc hff cx cy hB hZ hN hw
  simp only [puts, Act.put, List.setIfInBounds_toArray, List.set_cons_succ, List.set_cons_zero]
  generalize u.setCell ⟨w.heap.size, x1, none⟩ (.int .u32 A2) = wr5 at *
  have hB := hB'
  have hZ := hZ'
  have hN := hN'
  clear O2 hB' hZ' hN'
  have cx : ∀ u, Below wr5.heap.size wr5 u → u.cell? ⟨w.heap.size, x4, none⟩ = some (.int .u32 D1) := fun u hu => by
    have := (hB.up hu).cell (i := x4) (by rw [put4_len, HL.out]; exact hl)
    rw [put4_l HL.out ne ⟨A2, B1, C1, D1⟩ hl] at this
    exact this
  have cy : ∀ u, Below wr5.heap.size wr5 u → u.cell? ⟨w.heap.size, x1, none⟩ = some (.int .u32 A2) := fun u hu => by
    have := (hB.up hu).cell (i := x1) (by rw [put4_len, HL.out]; exact hi)
    rw [put4_i HL.out ne ⟨A2, B1, C1, D1⟩ hi] at this
    exact this
  go_wp2_with fail
  refine region_store 10 _ (fun i => [Fact.eq (.int .i64 (x4 : Int)), Fact.eq (.int .i64 (x4 : Int)), Fact.eq (.pointer (some ⟨w.heap.size, x4, none⟩)), Fact.eq (.int .u32 D1), Fact.eq (.int .i64 (x1 : Int)), Fact.eq (.pointer (some ⟨w.heap.size, x1, none⟩)), Fact.eq (.int .u32 A2), Fact.eq (.int .u32 (bits BinOp.xor IntKind.u32 D1 A2)), Fact.eq (.int .u32 D2), Fact.eq (.pointer (some ⟨w.heap.size, x4, none⟩))].getD i Fact.no) (by kernel_rfl) (by kernel_rfl) rfl rfl ?_ ?_
  · skip
    intro i hi
    obtain rfl | rfl | rfl | rfl | rfl | rfl | rfl | rfl | rfl | rfl : i = 0 ∨ i = 1 ∨ i = 2 ∨ i = 3 ∨ i = 4 ∨ i = 5 ∨ i = 6 ∨ i = 7 ∨ i = 8 ∨ i = 9 := by omega
    · refine step_pure rfl fun a u hb hw hf => ?_
      have e4 : a.tmps[4]?.getD undef = .int .i64 (x4 : Int) := gdv (hb.2.2 4 (by kernel_rfl))
      exact ⟨.int .i64 (x4 : Int), by simp [go_sem, e4], rfl⟩
    · refine step_pure rfl fun a u hb hw hf => ?_
      have e4 : a.tmps[4]?.getD undef = .int .i64 (x4 : Int) := gdv (hb.2.2 4 (by kernel_rfl))
      exact ⟨.int .i64 (x4 : Int), by simp [go_sem, e4], rfl⟩
    · refine step_pure rfl fun a u hb hw hf => ?_
      have e5 : a.tmps[5]?.getD undef = .pointer (some ⟨w.heap.size, 0, none⟩) := gdv (hb.2.2 5 (by kernel_rfl))
      have e59 : a.tmps[59]?.getD undef = .int .i64 (x4 : Int) := gdv (hf 1 59 (by kernel_rfl))
      exact ⟨.pointer (some ⟨w.heap.size, x4, none⟩), by simp [go_sem, e5, e59, pl], rfl⟩
    · refine step_pure rfl fun a u hb hw hf => ?_
      have e60 : a.tmps[60]?.getD undef = .pointer (some ⟨w.heap.size, x4, none⟩) := gdv (hf 2 60 (by kernel_rfl))
      have hc := cx _ hw
      exact ⟨.int .u32 D1, by simp [go_sem, e60, hc], rfl⟩
    · refine step_pure rfl fun a u hb hw hf => ?_
      have e1 : a.tmps[1]?.getD undef = .int .i64 (x1 : Int) := gdv (hb.2.2 1 (by kernel_rfl))
      exact ⟨.int .i64 (x1 : Int), by simp [go_sem, e1], rfl⟩
    · refine step_pure rfl fun a u hb hw hf => ?_
      have e5 : a.tmps[5]?.getD undef = .pointer (some ⟨w.heap.size, 0, none⟩) := gdv (hb.2.2 5 (by kernel_rfl))
      have e62 : a.tmps[62]?.getD undef = .int .i64 (x1 : Int) := gdv (hf 4 62 (by kernel_rfl))
      exact ⟨.pointer (some ⟨w.heap.size, x1, none⟩), by simp [go_sem, e5, e62, pi], rfl⟩
    · refine step_pure rfl fun a u hb hw hf => ?_
      have e63 : a.tmps[63]?.getD undef = .pointer (some ⟨w.heap.size, x1, none⟩) := gdv (hf 5 63 (by kernel_rfl))
      have hc := cy _ hw
      exact ⟨.int .u32 A2, by simp [go_sem, e63, hc], rfl⟩
    · refine step_pure rfl fun a u hb hw hf => ?_
      have e61 : a.tmps[61]?.getD undef = .int .u32 D1 := gdv (hf 3 61 (by kernel_rfl))
      have e64 : a.tmps[64]?.getD undef = .int .u32 A2 := gdv (hf 6 64 (by kernel_rfl))
      exact ⟨.int .u32 (bits BinOp.xor IntKind.u32 D1 A2), by simp [go_sem, e61, e64], rfl⟩
    · refine step_callv rfl 82 _ _ rfl (by kernel_rfl) fun a u hb hw hf => ?_
      have e65 : a.tmps.getD 65 undef = .int .u32 (bits BinOp.xor IntKind.u32 D1 A2) := hf 7 65 (by kernel_rfl)
      show Calls Try.prog 82 #[a.tmps.getD 65 undef, .int .u64 8] u _
      rw [e65]
      exact (L3 u).out
    · refine step_pure rfl fun a u hb hw hf => ?_
      have e5 : a.tmps[5]?.getD undef = .pointer (some ⟨w.heap.size, 0, none⟩) := gdv (hb.2.2 5 (by kernel_rfl))
      have e58 : a.tmps[58]?.getD undef = .int .i64 (x4 : Int) := gdv (hf 0 58 (by kernel_rfl))
      exact ⟨.pointer (some ⟨w.heap.size, x4, none⟩), by simp [go_sem, e5, e58, pl], rfl⟩
  intro a u hb hw hf
  have ep : a.tmps[67]?.getD undef = .pointer (some ⟨w.heap.size, x4, none⟩) := gdv (hf 9 67 (by kernel_rfl))
  have ev : a.tmps[66]?.getD undef = .int .u32 D2 := gdv (hf 8 66 (by kernel_rfl))
  have hcc := cx u hw
  have hff := (hB.up hw).free x4
  have hB' := (hB.up hw).store x4 D2
  rw [set4_l ne ⟨A2, B1, C1, D1⟩] at hB'
  have O2 := Only.setCell u w.heap.size x4 (.int .u32 D2)
  have hZ' := (hZ.up hw).of_block (O2.block (w.heap.size + 1) (by omega))
  have hN' := hN.trans ((hw.mono hN.size).trans (O2.below (Nat.le_refl _)))
  obtain ⟨vs, hvs⟩ : ∃ vs : Nat → Value, ∀ d, a.tmps.getD d undef = vs d := ⟨_, fun _ => rfl⟩
  have ea := puts_of (md := .any) (n := 88) (k := 10) (by kernel_rfl) rfl hb vs hvs
  unfold Oper.wp
  simp [go_sem, ep, ev, hcc, hff]
  rw [ea]
  clear ea hvs ep ev hf hb hcc hff cx cy hB hZ hN hw
  simp only [puts, Act.put, List.setIfInBounds_toArray, List.set_cons_succ, List.set_cons_zero]
  generalize u.setCell ⟨w.heap.size, x4, none⟩ (.int .u32 D2) = wr6 at *
  have hB := hB'
  have hZ := hZ'
  have hN := hN'
  clear O2 hB' hZ' hN'
  have cx : ∀ u, Below wr6.heap.size wr6 u → u.cell? ⟨w.heap.size, x3, none⟩ = some (.int .u32 C1) := fun u hu => by
    have := (hB.up hu).cell (i := x3) (by rw [put4_len, HL.out]; exact hk)
    rw [put4_k HL.out ne ⟨A2, B1, C1, D2⟩ hk] at this
    exact this
  have cy : ∀ u, Below wr6.heap.size wr6 u → u.cell? ⟨w.heap.size, x4, none⟩ = some (.int .u32 D2) := fun u hu => by
    have := (hB.up hu).cell (i := x4) (by rw [put4_len, HL.out]; exact hl)
    rw [put4_l HL.out ne ⟨A2, B1, C1, D2⟩ hl] at this
    exact this
  go_wp2_with fail
  refine region_store 9 _ (fun i => [Fact.eq (.int .i64 (x3 : Int)), Fact.eq (.int .i64 (x3 : Int)), Fact.eq (.pointer (some ⟨w.heap.size, x3, none⟩)), Fact.eq (.int .u32 C1), Fact.eq (.int .i64 (x4 : Int)), Fact.eq (.pointer (some ⟨w.heap.size, x4, none⟩)), Fact.eq (.int .u32 D2), Fact.eq (.int .u32 C2), Fact.eq (.pointer (some ⟨w.heap.size, x3, none⟩))].getD i Fact.no) (by kernel_rfl) (by kernel_rfl) rfl rfl ?_ ?_
  · skip
    intro i hi
    obtain rfl | rfl | rfl | rfl | rfl | rfl | rfl | rfl | rfl : i = 0 ∨ i = 1 ∨ i = 2 ∨ i = 3 ∨ i = 4 ∨ i = 5 ∨ i = 6 ∨ i = 7 ∨ i = 8 := by omega
    · refine step_pure rfl fun a u hb hw hf => ?_
      have e3 : a.tmps[3]?.getD undef = .int .i64 (x3 : Int) := gdv (hb.2.2 3 (by kernel_rfl))
      exact ⟨.int .i64 (x3 : Int), by simp [go_sem, e3], rfl⟩
    · refine step_pure rfl fun a u hb hw hf => ?_
      have e3 : a.tmps[3]?.getD undef = .int .i64 (x3 : Int) := gdv (hb.2.2 3 (by kernel_rfl))
      exact ⟨.int .i64 (x3 : Int), by simp [go_sem, e3], rfl⟩
    · refine step_pure rfl fun a u hb hw hf => ?_
      have e5 : a.tmps[5]?.getD undef = .pointer (some ⟨w.heap.size, 0, none⟩) := gdv (hb.2.2 5 (by kernel_rfl))
      have e69 : a.tmps[69]?.getD undef = .int .i64 (x3 : Int) := gdv (hf 1 69 (by kernel_rfl))
      exact ⟨.pointer (some ⟨w.heap.size, x3, none⟩), by simp [go_sem, e5, e69, pk], rfl⟩
    · refine step_pure rfl fun a u hb hw hf => ?_
      have e70 : a.tmps[70]?.getD undef = .pointer (some ⟨w.heap.size, x3, none⟩) := gdv (hf 2 70 (by kernel_rfl))
      have hc := cx _ hw
      exact ⟨.int .u32 C1, by simp [go_sem, e70, hc], rfl⟩
    · refine step_pure rfl fun a u hb hw hf => ?_
      have e4 : a.tmps[4]?.getD undef = .int .i64 (x4 : Int) := gdv (hb.2.2 4 (by kernel_rfl))
      exact ⟨.int .i64 (x4 : Int), by simp [go_sem, e4], rfl⟩
    · refine step_pure rfl fun a u hb hw hf => ?_
      have e5 : a.tmps[5]?.getD undef = .pointer (some ⟨w.heap.size, 0, none⟩) := gdv (hb.2.2 5 (by kernel_rfl))
      have e72 : a.tmps[72]?.getD undef = .int .i64 (x4 : Int) := gdv (hf 4 72 (by kernel_rfl))
      exact ⟨.pointer (some ⟨w.heap.size, x4, none⟩), by simp [go_sem, e5, e72, pl], rfl⟩
    · refine step_pure rfl fun a u hb hw hf => ?_
      have e73 : a.tmps[73]?.getD undef = .pointer (some ⟨w.heap.size, x4, none⟩) := gdv (hf 5 73 (by kernel_rfl))
      have hc := cy _ hw
      exact ⟨.int .u32 D2, by simp [go_sem, e73, hc], rfl⟩
    · refine step_pure rfl fun a u hb hw hf => ?_
      have e71 : a.tmps[71]?.getD undef = .int .u32 C1 := gdv (hf 3 71 (by kernel_rfl))
      have e74 : a.tmps[74]?.getD undef = .int .u32 D2 := gdv (hf 6 74 (by kernel_rfl))
      exact ⟨.int .u32 C2, by simp [go_sem, e71, e74, IntKind.wrap_u32', f7.out], rfl⟩
    · refine step_pure rfl fun a u hb hw hf => ?_
      have e5 : a.tmps[5]?.getD undef = .pointer (some ⟨w.heap.size, 0, none⟩) := gdv (hb.2.2 5 (by kernel_rfl))
      have e68 : a.tmps[68]?.getD undef = .int .i64 (x3 : Int) := gdv (hf 0 68 (by kernel_rfl))
      exact ⟨.pointer (some ⟨w.heap.size, x3, none⟩), by simp [go_sem, e5, e68, pk], rfl⟩
  intro a u hb hw hf
  have ep : a.tmps[76]?.getD undef = .pointer (some ⟨w.heap.size, x3, none⟩) := gdv (hf 8 76 (by kernel_rfl))
  have ev : a.tmps[75]?.getD undef = .int .u32 C2 := gdv (hf 7 75 (by kernel_rfl))
  have hcc := cx u hw
  have hff := (hB.up hw).free x3
  have hB' := (hB.up hw).store x3 C2
  rw [set4_k ne ⟨A2, B1, C1, D2⟩] at hB'
  have O2 := Only.setCell u w.heap.size x3 (.int .u32 C2)
  have hZ' := (hZ.up hw).of_block (O2.block (w.heap.size + 1) (by omega))
  have hN' := hN.trans ((hw.mono hN.size).trans (O2.below (Nat.le_refl _)))
  obtain ⟨vs, hvs⟩ : ∃ vs : Nat → Value, ∀ d, a.tmps.getD d undef = vs d := ⟨_, fun _ => rfl⟩
  have ea := puts_of (md := .any) (n := 88) (k := 9) (by kernel_rfl) rfl hb vs hvs
  unfold Oper.wp
  simp [go_sem, ep, ev, hcc, hff]
  rw [ea]
  clear ea hvs ep ev hf hb hcc hff cx cy hB hZ hN hw
  simp only [puts, Act.put, List.setIfInBounds_toArray, List.set_cons_succ, List.set_cons_zero]
  generalize u.setCell ⟨w.heap.size, x3, none⟩ (.int .u32 C2) = wr7 at *
  have hB := hB'
  have hZ := hZ'
  have hN := hN'
  clear O2 hB' hZ' hN'
  have cx : ∀ u, Below wr7.heap.size wr7 u → u.cell? ⟨w.heap.size, x2, none⟩ = some (.int .u32 B1) := fun u hu => by
    have := (hB.up hu).cell (i := x2) (by rw [put4_len, HL.out]; exact hj)
    rw [put4_j HL.out ne ⟨A2, B1, C2, D2⟩ hj] at this
    exact this
  have cy : ∀ u, Below wr7.heap.size wr7 u → u.cell? ⟨w.heap.size, x3, none⟩ = some (.int .u32 C2) := fun u hu => by
    have := (hB.up hu).cell (i := x3) (by rw [put4_len, HL.out]; exact hk)
    rw [put4_k HL.out ne ⟨A2, B1, C2, D2⟩ hk] at this
    exact this
  go_wp2_with fail
  refine region_store 10 _ (fun i => [Fact.eq (.int .i64 (x2 : Int)), Fact.eq (.int .i64 (x2 : Int)), Fact.eq (.pointer (some ⟨w.heap.size, x2, none⟩)), Fact.eq (.int .u32 B1), Fact.eq (.int .i64 (x3 : Int)), Fact.eq (.pointer (some ⟨w.heap.size, x3, none⟩)), Fact.eq (.int .u32 C2), Fact.eq (.int .u32 (bits BinOp.xor IntKind.u32 B1 C2)), Fact.eq (.int .u32 B2), Fact.eq (.pointer (some ⟨w.heap.size, x2, none⟩))].getD i Fact.no) (by kernel_rfl) (by kernel_rfl) rfl rfl ?_ ?_
  · skip
    intro i hi
    obtain rfl | rfl | rfl | rfl | rfl | rfl | rfl | rfl | rfl | rfl : i = 0 ∨ i = 1 ∨ i = 2 ∨ i = 3 ∨ i = 4 ∨ i = 5 ∨ i = 6 ∨ i = 7 ∨ i = 8 ∨ i = 9 := by omega
    · refine step_pure rfl fun a u hb hw hf => ?_
      have e2 : a.tmps[2]?.getD undef = .int .i64 (x2 : Int) := gdv (hb.2.2 2 (by kernel_rfl))
      exact ⟨.int .i64 (x2 : Int), by simp [go_sem, e2], rfl⟩
    · refine step_pure rfl fun a u hb hw hf => ?_
      have e2 : a.tmps[2]?.getD undef = .int .i64 (x2 : Int) := gdv (hb.2.2 2 (by kernel_rfl))
      exact ⟨.int .i64 (x2 : Int), by simp [go_sem, e2], rfl⟩
    · refine step_pure rfl fun a u hb hw hf => ?_
      have e5 : a.tmps[5]?.getD undef = .pointer (some ⟨w.heap.size, 0, none⟩) := gdv (hb.2.2 5 (by kernel_rfl))
      have e78 : a.tmps[78]?.getD undef = .int .i64 (x2 : Int) := gdv (hf 1 78 (by kernel_rfl))
      exact ⟨.pointer (some ⟨w.heap.size, x2, none⟩), by simp [go_sem, e5, e78, pj], rfl⟩
    · refine step_pure rfl fun a u hb hw hf => ?_
      have e79 : a.tmps[79]?.getD undef = .pointer (some ⟨w.heap.size, x2, none⟩) := gdv (hf 2 79 (by kernel_rfl))
      have hc := cx _ hw
      exact ⟨.int .u32 B1, by simp [go_sem, e79, hc], rfl⟩
    · refine step_pure rfl fun a u hb hw hf => ?_
      have e3 : a.tmps[3]?.getD undef = .int .i64 (x3 : Int) := gdv (hb.2.2 3 (by kernel_rfl))
      exact ⟨.int .i64 (x3 : Int), by simp [go_sem, e3], rfl⟩
    · refine step_pure rfl fun a u hb hw hf => ?_
      have e5 : a.tmps[5]?.getD undef = .pointer (some ⟨w.heap.size, 0, none⟩) := gdv (hb.2.2 5 (by kernel_rfl))
      have e81 : a.tmps[81]?.getD undef = .int .i64 (x3 : Int) := gdv (hf 4 81 (by kernel_rfl))
      exact ⟨.pointer (some ⟨w.heap.size, x3, none⟩), by simp [go_sem, e5, e81, pk], rfl⟩
    · refine step_pure rfl fun a u hb hw hf => ?_
      have e82 : a.tmps[82]?.getD undef = .pointer (some ⟨w.heap.size, x3, none⟩) := gdv (hf 5 82 (by kernel_rfl))
      have hc := cy _ hw
      exact ⟨.int .u32 C2, by simp [go_sem, e82, hc], rfl⟩
    · refine step_pure rfl fun a u hb hw hf => ?_
      have e80 : a.tmps[80]?.getD undef = .int .u32 B1 := gdv (hf 3 80 (by kernel_rfl))
      have e83 : a.tmps[83]?.getD undef = .int .u32 C2 := gdv (hf 6 83 (by kernel_rfl))
      exact ⟨.int .u32 (bits BinOp.xor IntKind.u32 B1 C2), by simp [go_sem, e80, e83], rfl⟩
    · refine step_callv rfl 82 _ _ rfl (by kernel_rfl) fun a u hb hw hf => ?_
      have e84 : a.tmps.getD 84 undef = .int .u32 (bits BinOp.xor IntKind.u32 B1 C2) := hf 7 84 (by kernel_rfl)
      show Calls Try.prog 82 #[a.tmps.getD 84 undef, .int .u64 7] u _
      rw [e84]
      exact (L4 u).out
    · refine step_pure rfl fun a u hb hw hf => ?_
      have e5 : a.tmps[5]?.getD undef = .pointer (some ⟨w.heap.size, 0, none⟩) := gdv (hb.2.2 5 (by kernel_rfl))
      have e77 : a.tmps[77]?.getD undef = .int .i64 (x2 : Int) := gdv (hf 0 77 (by kernel_rfl))
      exact ⟨.pointer (some ⟨w.heap.size, x2, none⟩), by simp [go_sem, e5, e77, pj], rfl⟩
  intro a u hb hw hf
  have ep : a.tmps[86]?.getD undef = .pointer (some ⟨w.heap.size, x2, none⟩) := gdv (hf 9 86 (by kernel_rfl))
  have ev : a.tmps[85]?.getD undef = .int .u32 B2 := gdv (hf 8 85 (by kernel_rfl))
  have hcc := cx u hw
  have hff := (hB.up hw).free x2
  have hB' := (hB.up hw).store x2 B2
  rw [set4_j ne ⟨A2, B1, C2, D2⟩] at hB'
  have O2 := Only.setCell u w.heap.size x2 (.int .u32 B2)
  have hZ' := (hZ.up hw).of_block (O2.block (w.heap.size + 1) (by omega))
  have hN' := hN.trans ((hw.mono hN.size).trans (O2.below (Nat.le_refl _)))
  obtain ⟨vs, hvs⟩ : ∃ vs : Nat → Value, ∀ d, a.tmps.getD d undef = vs d := ⟨_, fun _ => rfl⟩
  have ea := puts_of (md := .any) (n := 88) (k := 10) (by kernel_rfl) rfl hb vs hvs
  unfold Oper.wp
  simp [go_sem, ep, ev, hcc, hff]
  rw [ea]
  clear ea hvs ep ev hf hb hcc hff cx cy hB hZ hN hw
  simp only [puts, Act.put, List.setIfInBounds_toArray, List.set_cons_succ, List.set_cons_zero]
  generalize u.setCell ⟨w.heap.size, x2, none⟩ (.int .u32 B2) = wr8 at *
  have hB := hB'
  have hZ := hZ'
  have hN := hN'
  clear O2 hB' hZ' hN'
  have RG := (Seg.blk hB).range
  have L : Hid (((put4 ys x1 x2 x3 x4 ⟨A2, B2, C2, D2⟩).map (Value.int .u32)).length = 16) := by show _ = _; rw [List.length_map, put4_len]; exact HL.out
  have O := one_ints .u32 (put4 ys x1 x2 x3 x4 ⟨A2, B2, C2, D2⟩)
  obtain ⟨t0, H0⟩ := hZ
  have SR := setRow_heap wr8 (w.heap.size + 1) _ ((put4 ys x1 x2 x3 x4 ⟨A2, B2, C2, D2⟩).map (Value.int .u32)).toArray _ _ H0
  have SN : Below w.heap.size w (wr8.setRow (w.heap.size + 1) ((put4 ys x1 x2 x3 x4 ⟨A2, B2, C2, D2⟩).map (Value.int .u32)).toArray) := hN.trans ((only_setRow wr8 (w.heap.size + 1) _).below (by omega))
  have V : Hid (ag .u32 (put4 ys x1 x2 x3 x4 ⟨A2, B2, C2, D2⟩) = Value.agg ((put4 ys x1 x2 x3 x4 ⟨A2, B2, C2, D2⟩).map (Value.int .u32)).toArray) := rfl
  obtain ⟨vs', hv⟩ : ∃ v, v = (put4 ys x1 x2 x3 x4 ⟨A2, B2, C2, D2⟩).map (Value.int .u32) := ⟨_, rfl⟩
  rw [← hv] at RG L O SR SN V
  clear hv hB
  go_wp2_with (first
    | (refine wpList_load_mid rfl 46 (.tmp 5) rfl w.heap.size 0 rfl vs' (.array 16 45) RG und16 rfl (by rw [L.out]; exact info16) ?_)
    | (refine wpList_store_row rfl 46 (.tmp 10) (.tmp 87) rfl (w.heap.size + 1) vs'.toArray rfl rfl t0 _ H0 (by rw [List.size_toArray, L.out]; exact info16) (by rw [List.size_toArray, List.size_toArray, L.out]; rfl) O ?_))
  exact bodyPost_ret (v := .agg vs'.toArray) (results_cell_row Try.results76 _ _ (w.heap.size + 1) t0 vs'.toArray (0, 0) (.array 16 45) rfl SR und16 rfl (by rw [List.size_toArray, L.out]; exact info16)) rfl ⟨by rw [V.out], SN⟩
end Go.Proofs.Ythfbchkonklmkaa
