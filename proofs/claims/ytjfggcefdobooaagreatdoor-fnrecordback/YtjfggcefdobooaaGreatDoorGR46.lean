import Derived.Test.YtjfggcefdobooaaGreatDoorGR34
import Derived.Test.YtjfggcefdobooaaGreatDoorGR31
import Derived.Test.YtjfggcefdobooaaGreatDoorGR38
import Derived.Test.YtjfggcefdobooaaGreatDoorGR2
import Derived.Test.YtjfggcefdobooaaGreatDoorGR41
import Derived.Maps.AppendAt
import Derived.Deep.RegionHeld3
namespace Go.Proofs.YtjfggcefdobooaaGreatDoor
set_option maxRecDepth 100000
open Go Go.RowKit
structure Ne4 (i j k l : Nat) : Prop where
  ij : i ≠ j
  ik : i ≠ k
  il : i ≠ l
  jk : j ≠ k
  jl : j ≠ l
  kl : k ≠ l
section
variable {ys : List Int} {i j k l n : Nat} (hn : ys.length = n) (ne : Ne4 i j k l) (s : Q4)
theorem set4_i {ys : List Int} {i j k l : Nat} (ne : Ne4 i j k l) (s : Q4) {x : Int} : (put4 ys i j k l s).set i x = put4 ys i j k l ⟨x, s.b, s.c, s.d⟩ := by
  unfold put4
  rw [List.set_comm _ _ (Ne.symm ne.il), List.set_comm _ _ (Ne.symm ne.ik), List.set_comm _ _ (Ne.symm ne.ij), List.set_set]
theorem set4_j {ys : List Int} {i j k l : Nat} (ne : Ne4 i j k l) (s : Q4) {x : Int} : (put4 ys i j k l s).set j x = put4 ys i j k l ⟨s.a, x, s.c, s.d⟩ := by
  unfold put4
  rw [List.set_comm _ _ (Ne.symm ne.jl), List.set_comm _ _ (Ne.symm ne.jk), List.set_set]
theorem set4_k {ys : List Int} {i j k l : Nat} (ne : Ne4 i j k l) (s : Q4) {x : Int} : (put4 ys i j k l s).set k x = put4 ys i j k l ⟨s.a, s.b, x, s.d⟩ := by
  unfold put4
  rw [List.set_comm _ _ (Ne.symm ne.kl), List.set_set]
theorem set4_l {ys : List Int} {i j k l : Nat} (_ : Ne4 i j k l) (s : Q4) {x : Int} : (put4 ys i j k l s).set l x = put4 ys i j k l ⟨s.a, s.b, s.c, x⟩ := by
  unfold put4
  rw [List.set_set]
theorem put4_i {ys : List Int} {i j k l n : Nat} (hn : ys.length = n) (ne : Ne4 i j k l) (s : Q4) (h : i < n) : (put4 ys i j k l s).getD i 0 = s.a := by
  unfold put4
  rw [getD_set_ne _ _ _ _ (Ne.symm ne.il), getD_set_ne _ _ _ _ (Ne.symm ne.ik), getD_set_ne _ _ _ _ (Ne.symm ne.ij), getD_set_self _ _ _ (by rw [hn]; exact h)]
theorem put4_j {ys : List Int} {i j k l n : Nat} (hn : ys.length = n) (ne : Ne4 i j k l) (s : Q4) (h : j < n) : (put4 ys i j k l s).getD j 0 = s.b := by
  unfold put4
  rw [getD_set_ne _ _ _ _ (Ne.symm ne.jl), getD_set_ne _ _ _ _ (Ne.symm ne.jk), getD_set_self _ _ _ (by rw [List.length_set, hn]; exact h)]
theorem put4_k {ys : List Int} {i j k l n : Nat} (hn : ys.length = n) (ne : Ne4 i j k l) (s : Q4) (h : k < n) : (put4 ys i j k l s).getD k 0 = s.c := by
  unfold put4
  rw [getD_set_ne _ _ _ _ (Ne.symm ne.kl), getD_set_self _ _ _ (by rw [List.length_set, List.length_set, hn]; exact h)]
theorem put4_l {ys : List Int} {i j k l n : Nat} (hn : ys.length = n) (_ : Ne4 i j k l) (s : Q4) (h : l < n) : (put4 ys i j k l s).getD l 0 = s.d := by
  unfold put4
  rw [getD_set_self _ _ _ (by rw [List.length_set, List.length_set, List.length_set, hn]; exact h)]
theorem put4_self {ys : List Int} {i j k l : Nat} (ne : Ne4 i j k l) : put4 ys i j k l (get4 ys i j k l) = ys := by
  refine eq_of_getD (put4_len _ _ _ _ _ _) (fun m hm => ?_)
  rw [put4_len] at hm
  by_cases h1 : l = m
  · subst h1; exact put4_l rfl ne _ hm
  by_cases h2 : k = m
  · subst h2; exact put4_k rfl ne _ hm
  by_cases h3 : j = m
  · subst h3; exact put4_j rfl ne _ hm
  by_cases h4 : i = m
  · subst h4; exact put4_i rfl ne _ hm
  unfold put4
  rw [getD_set_ne _ _ _ _ h1, getD_set_ne _ _ _ _ h2, getD_set_ne _ _ _ _ h3, getD_set_ne _ _ _ _ h4]
end
set_option maxHeartbeats 1000000 in
theorem left_any (w : World) (x : Int) (h : W4 x) (n : Nat) (h0 : 0 < n) (h1 : n < 32) : Calls Tryz.prog 99 #[.int .u32 x, .int .u64 (n : Int)] w fun e w' => ∃ v, e = .returned v ∧ Below w.heap.size w w' ∧ v = .int .u32 (lf x n) := by
  obtain ⟨x0, x1⟩ := h
  go_enter Tryz.func99, Tryz.ntmps99
  go_wp2
  go_ret
  exact ⟨_, rfl, Below.refl _ _, rfl⟩
theorem info16 : (Tryz.prog.info? 94).map (·.size) = some 16 := by kernel_rfl
theorem und16 : Tryz.prog.underlying 94 = some (.array 16 93) := by kernel_rfl
set_option maxRecDepth 100000 in
set_option maxHeartbeats 8000000 in
theorem l8Quarter_any (w : World) (ys : List Int) (hw : Ws ys) (hl0 : ys.length = 16) (x1 x2 x3 x4 : Nat) (hi : x1 < 16) (hj : x2 < 16) (hk : x3 < 16) (hll : x4 < 16) (ne : Ne4 x1 x2 x3 x4) :
    Calls Tryz.prog 74 #[ag .u32 ys, .int .i64 (x1 : Int), .int .i64 (x2 : Int), .int .i64 (x3 : Int), .int .i64 (x4 : Int)] w fun e w' => e = .returned (ag .u32 (qrL ys x1 x2 x3 x4)) ∧ Below w.heap.size w w' := by
  have B0 := blk_alloc w .u32 94 ys
  have n0 : Below w.heap.size w (w.alloc (.cells (ys.map (Value.int .u32)).toArray 94)) := (Below.refl _ _).alloc (Nat.le_refl _) _
  have z0 : (w.alloc (.cells (ys.map (Value.int .u32)).toArray 94)).heap.size = w.heap.size + 1 := by simp
  have HL := hide hl0
  have hl := hll
  clear hl0 hll
  have pi : (x1 : Int) < 16 := by omega
  have pj : (x2 : Int) < 16 := by omega
  have pk : (x3 : Int) < 16 := by omega
  have pl : (x4 : Int) < 16 := by omega
  have so := hw.get4 x1 x2 x3 x4
  have so1 := qH_ok so 16 12
  have L1 := fun u => hide (left_any u _ (xor_w4 so.2.2.2 (qA_w (get4 ys x1 x2 x3 x4))) 16 (by decide) (by decide))
  have L2 := fun u => hide (left_any u _ (xor_w4 so.2.1 (qC_w (get4 ys x1 x2 x3 x4) 16)) 12 (by decide) (by decide))
  have L3 := fun u => hide (left_any u _ (xor_w4 so1.2.2.2 (qA_w (qH (get4 ys x1 x2 x3 x4) 16 12))) 8 (by decide) (by decide))
  have L4 := fun u => hide (left_any u _ (xor_w4 so1.2.1 (qC_w (qH (get4 ys x1 x2 x3 x4) 16 12) 8)) 7 (by decide) (by decide))
  have hB : Blk (w.alloc (.cells (ys.map (Value.int .u32)).toArray 94)) w.heap.size .u32 (put4 ys x1 x2 x3 x4 (get4 ys x1 x2 x3 x4)) := by rw [put4_self ne]; exact B0
  have QE : Hid (qrL ys x1 x2 x3 x4 = put4 ys x1 x2 x3 x4 (qr (get4 ys x1 x2 x3 x4))) := rfl
  rw [QE.out]
  clear QE so so1
  obtain ⟨s0, hs0⟩ : ∃ s, s = get4 ys x1 x2 x3 x4 := ⟨_, rfl⟩
  rw [← hs0] at hB ⊢
  simp only [← hs0] at L1 L2 L3 L4
  clear hs0 hw B0
  obtain ⟨A, B, C, D⟩ := s0
  have E0 : Hid (qr ⟨A, B, C, D⟩ = ⟨qA (qH ⟨A, B, C, D⟩ 16 12), qB (qH ⟨A, B, C, D⟩ 16 12) 8 7, qC (qH ⟨A, B, C, D⟩ 16 12) 8, qD (qH ⟨A, B, C, D⟩ 16 12) 8⟩) := rfl
  rw [E0.out]
  clear E0
  have f1 : Hid ((A + B) % 4294967296 = qA ⟨A, B, C, D⟩) := rfl
  have f3 : Hid ((C + qD ⟨A, B, C, D⟩ 16) % 4294967296 = qC ⟨A, B, C, D⟩ 16) := rfl
  have f5 : Hid ((qA ⟨A, B, C, D⟩ + qB ⟨A, B, C, D⟩ 16 12) % 4294967296 = qA (qH ⟨A, B, C, D⟩ 16 12)) := rfl
  have f7 : Hid ((qC ⟨A, B, C, D⟩ 16 + qD (qH ⟨A, B, C, D⟩ 16 12) 8) % 4294967296 = qC (qH ⟨A, B, C, D⟩ 16 12) 8) := rfl
  have L1 : ∀ u, Hid (Calls Tryz.prog 99 #[.int .u32 (bits BinOp.xor IntKind.u32 D (qA ⟨A, B, C, D⟩)), .int .u64 16] u fun e w' => ∃ v, e = .returned v ∧ Below u.heap.size u w' ∧ v = .int .u32 (qD ⟨A, B, C, D⟩ 16)) := L1
  have L2 : ∀ u, Hid (Calls Tryz.prog 99 #[.int .u32 (bits BinOp.xor IntKind.u32 B (qC ⟨A, B, C, D⟩ 16)), .int .u64 12] u fun e w' => ∃ v, e = .returned v ∧ Below u.heap.size u w' ∧ v = .int .u32 (qB ⟨A, B, C, D⟩ 16 12)) := L2
  have L3 : ∀ u, Hid (Calls Tryz.prog 99 #[.int .u32 (bits BinOp.xor IntKind.u32 (qD ⟨A, B, C, D⟩ 16) (qA (qH ⟨A, B, C, D⟩ 16 12))), .int .u64 8] u fun e w' => ∃ v, e = .returned v ∧ Below u.heap.size u w' ∧ v = .int .u32 (qD (qH ⟨A, B, C, D⟩ 16 12) 8)) := L3
  have L4 : ∀ u, Hid (Calls Tryz.prog 99 #[.int .u32 (bits BinOp.xor IntKind.u32 (qB ⟨A, B, C, D⟩ 16 12) (qC (qH ⟨A, B, C, D⟩ 16 12) 8)), .int .u64 7] u fun e w' => ∃ v, e = .returned v ∧ Below u.heap.size u w' ∧ v = .int .u32 (qB (qH ⟨A, B, C, D⟩ 16 12) 8 7)) := L4
  generalize qA (qH ⟨A, B, C, D⟩ 16 12) = A2 at *
  generalize qB (qH ⟨A, B, C, D⟩ 16 12) 8 7 = B2 at *
  generalize qC (qH ⟨A, B, C, D⟩ 16 12) 8 = C2 at *
  generalize qD (qH ⟨A, B, C, D⟩ 16 12) 8 = D2 at *
  generalize qA ⟨A, B, C, D⟩ = A1 at *
  generalize qD ⟨A, B, C, D⟩ 16 = D1 at *
  generalize qC ⟨A, B, C, D⟩ 16 = C1 at *
  generalize qB ⟨A, B, C, D⟩ 16 12 = B1 at *
  have VY : Hid (ag .u32 ys = Value.agg (ys.map (Value.int .u32)).toArray) := rfl
  rw [VY.out]
  obtain ⟨vs0, hvs0⟩ : ∃ vs, vs = ys.map (Value.int .u32) := ⟨_, rfl⟩
  rw [← hvs0] at hB n0 z0 ⊢
  clear hvs0 VY
  go_enter Tryz.func74, Tryz.ntmps74
  go_upto_region 1 with fail
  generalize w.alloc (.cells vs0.toArray 94) = wa at *
  have n1 : Below wa.heap.size wa (wa.alloc (.cells #[.int .u32 0, .int .u32 0, .int .u32 0, .int .u32 0, .int .u32 0, .int .u32 0, .int .u32 0, .int .u32 0, .int .u32 0, .int .u32 0, .int .u32 0, .int .u32 0, .int .u32 0, .int .u32 0, .int .u32 0, .int .u32 0] 94)) := (Below.refl _ _).alloc (Nat.le_refl _) _
  have hZ := blk_z16 wa 94
  generalize wa.alloc (.cells #[.int .u32 0, .int .u32 0, .int .u32 0, .int .u32 0, .int .u32 0, .int .u32 0, .int .u32 0, .int .u32 0, .int .u32 0, .int .u32 0, .int .u32 0, .int .u32 0, .int .u32 0, .int .u32 0, .int .u32 0, .int .u32 0] 94) = wr0 at *
  rw [z0] at hZ
  replace hB := hB.up n1
  have hN := nxt n0 n1
  clear n0 n1 z0
  have cx : ∀ u, Below wr0.heap.size wr0 u → u.cell? ⟨w.heap.size, x1, none⟩ = some (.int .u32 A) := fun u hu => by
    have := (hB.up hu).cell (i := x1) (by rw [put4_len, HL.out]; exact hi)
    rw [put4_i HL.out ne ⟨A, B, C, D⟩ hi] at this
    exact this
  have cy : ∀ u, Below wr0.heap.size wr0 u → u.cell? ⟨w.heap.size, x2, none⟩ = some (.int .u32 B) := fun u hu => by
    have := (hB.up hu).cell (i := x2) (by rw [put4_len, HL.out]; exact hj)
    rw [put4_j HL.out ne ⟨A, B, C, D⟩ hj] at this
    exact this
  go_wp2_with fail
  refine region_store 9 _ (fun i => [Fact.eq (.int .i64 (x1 : Int)), Fact.eq (.int .i64 (x1 : Int)), Fact.eq (.pointer (some ⟨w.heap.size, x1, none⟩)), Fact.eq (.int .u32 A), Fact.eq (.int .i64 (x2 : Int)), Fact.eq (.pointer (some ⟨w.heap.size, x2, none⟩)), Fact.eq (.int .u32 B), Fact.eq (.int .u32 A1), Fact.eq (.pointer (some ⟨w.heap.size, x1, none⟩))].getD i Fact.no) (by kernel_rfl) (by kernel_rfl) rfl rfl ?_ ?_
  · skip
    intro i hi
    obtain rfl | rfl | rfl | rfl | rfl | rfl | rfl | rfl | rfl : i = 0 ∨ i = 1 ∨ i = 2 ∨ i = 3 ∨ i = 4 ∨ i = 5 ∨ i = 6 ∨ i = 7 ∨ i = 8 := by omega
    · refine step_pure rfl fun a u hb hw hf => ?_
      have e1 : a.tmps[1]?.getD undef = .int .i64 (x1 : Int) := gdv (hb.2.2 1 (by kernel_rfl))
      exact ⟨.int .i64 (x1 : Int), by simp [go_sem, e1], rfl⟩
    · refine step_pure rfl fun a u hb hw hf => ?_
      have e1 : a.tmps[1]?.getD undef = .int .i64 (x1 : Int) := gdv (hb.2.2 1 (by kernel_rfl))
      exact ⟨.int .i64 (x1 : Int), by simp [go_sem, e1], rfl⟩
    · refine step_pure rfl fun a u hb hw hf => ?_
      have e5 : a.tmps[5]?.getD undef = .pointer (some ⟨w.heap.size, 0, none⟩) := gdv (hb.2.2 5 (by kernel_rfl))
      have e12 : a.tmps[12]?.getD undef = .int .i64 (x1 : Int) := gdv (hf 1 12 (by kernel_rfl))
      exact ⟨.pointer (some ⟨w.heap.size, x1, none⟩), by simp [go_sem, e5, e12, pi], rfl⟩
    · refine step_pure rfl fun a u hb hw hf => ?_
      have e13 : a.tmps[13]?.getD undef = .pointer (some ⟨w.heap.size, x1, none⟩) := gdv (hf 2 13 (by kernel_rfl))
      have hc := cx _ hw
      exact ⟨.int .u32 A, by simp [go_sem, e13, hc], rfl⟩
    · refine step_pure rfl fun a u hb hw hf => ?_
      have e2 : a.tmps[2]?.getD undef = .int .i64 (x2 : Int) := gdv (hb.2.2 2 (by kernel_rfl))
      exact ⟨.int .i64 (x2 : Int), by simp [go_sem, e2], rfl⟩
    · refine step_pure rfl fun a u hb hw hf => ?_
      have e5 : a.tmps[5]?.getD undef = .pointer (some ⟨w.heap.size, 0, none⟩) := gdv (hb.2.2 5 (by kernel_rfl))
      have e15 : a.tmps[15]?.getD undef = .int .i64 (x2 : Int) := gdv (hf 4 15 (by kernel_rfl))
      exact ⟨.pointer (some ⟨w.heap.size, x2, none⟩), by simp [go_sem, e5, e15, pj], rfl⟩
    · refine step_pure rfl fun a u hb hw hf => ?_
      have e16 : a.tmps[16]?.getD undef = .pointer (some ⟨w.heap.size, x2, none⟩) := gdv (hf 5 16 (by kernel_rfl))
      have hc := cy _ hw
      exact ⟨.int .u32 B, by simp [go_sem, e16, hc], rfl⟩
    · refine step_pure rfl fun a u hb hw hf => ?_
      have e14 : a.tmps[14]?.getD undef = .int .u32 A := gdv (hf 3 14 (by kernel_rfl))
      have e17 : a.tmps[17]?.getD undef = .int .u32 B := gdv (hf 6 17 (by kernel_rfl))
      exact ⟨.int .u32 A1, by simp [go_sem, e14, e17, IntKind.wrap_u32', f1.out], rfl⟩
    · refine step_pure rfl fun a u hb hw hf => ?_
      have e5 : a.tmps[5]?.getD undef = .pointer (some ⟨w.heap.size, 0, none⟩) := gdv (hb.2.2 5 (by kernel_rfl))
      have e11 : a.tmps[11]?.getD undef = .int .i64 (x1 : Int) := gdv (hf 0 11 (by kernel_rfl))
      exact ⟨.pointer (some ⟨w.heap.size, x1, none⟩), by simp [go_sem, e5, e11, pi], rfl⟩
  intro a u hb hw hf
  have ep : a.tmps[19]?.getD undef = .pointer (some ⟨w.heap.size, x1, none⟩) := gdv (hf 8 19 (by kernel_rfl))
  have ev : a.tmps[18]?.getD undef = .int .u32 A1 := gdv (hf 7 18 (by kernel_rfl))
  have hcc := cx u hw
  have hff := (hB.up hw).free x1
  have hB' := (hB.up hw).store x1 A1
  rw [set4_i ne ⟨A, B, C, D⟩] at hB'
  have O2 := Only.setCell u w.heap.size x1 (.int .u32 A1)
  have hZ' := (hZ.up hw).of_block (O2.block (w.heap.size + 1) (by omega))
  have hN' := hN.trans ((hw.mono hN.size).trans (O2.below (Nat.le_refl _)))
  obtain ⟨vs, hvs⟩ : ∃ vs : Nat → Value, ∀ d, a.tmps.getD d undef = vs d := ⟨_, fun _ => rfl⟩
  have ea := puts_of (md := .any) (n := 88) (k := 9) (by kernel_rfl) rfl hb vs hvs
  unfold Oper.wp
  simp [go_sem, ep, ev, hcc, hff]
  rw [ea]
  clear ea hvs ep ev hf hb hcc hff cx cy hB hZ hN hw
  simp only [puts, Act.put, List.setIfInBounds_toArray, List.set_cons_succ, List.set_cons_zero]
  generalize u.setCell ⟨w.heap.size, x1, none⟩ (.int .u32 A1) = wr1 at *
  have hB := hB'
  have hZ := hZ'
  have hN := hN'
  clear O2 hB' hZ' hN'
  have cx : ∀ u, Below wr1.heap.size wr1 u → u.cell? ⟨w.heap.size, x4, none⟩ = some (.int .u32 D) := fun u hu => by
    have := (hB.up hu).cell (i := x4) (by rw [put4_len, HL.out]; exact hl)
    rw [put4_l HL.out ne ⟨A1, B, C, D⟩ hl] at this
    exact this
  have cy : ∀ u, Below wr1.heap.size wr1 u → u.cell? ⟨w.heap.size, x1, none⟩ = some (.int .u32 A1) := fun u hu => by
    have := (hB.up hu).cell (i := x1) (by rw [put4_len, HL.out]; exact hi)
    rw [put4_i HL.out ne ⟨A1, B, C, D⟩ hi] at this
    exact this
  go_wp2_with fail
  refine region_store 10 _ (fun i => [Fact.eq (.int .i64 (x4 : Int)), Fact.eq (.int .i64 (x4 : Int)), Fact.eq (.pointer (some ⟨w.heap.size, x4, none⟩)), Fact.eq (.int .u32 D), Fact.eq (.int .i64 (x1 : Int)), Fact.eq (.pointer (some ⟨w.heap.size, x1, none⟩)), Fact.eq (.int .u32 A1), Fact.eq (.int .u32 (bits BinOp.xor IntKind.u32 D A1)), Fact.eq (.int .u32 D1), Fact.eq (.pointer (some ⟨w.heap.size, x4, none⟩))].getD i Fact.no) (by kernel_rfl) (by kernel_rfl) rfl rfl ?_ ?_
  · skip
    intro i hi
    obtain rfl | rfl | rfl | rfl | rfl | rfl | rfl | rfl | rfl | rfl : i = 0 ∨ i = 1 ∨ i = 2 ∨ i = 3 ∨ i = 4 ∨ i = 5 ∨ i = 6 ∨ i = 7 ∨ i = 8 ∨ i = 9 := by omega
    · refine step_pure rfl fun a u hb hw hf => ?_
      have e4 : a.tmps[4]?.getD undef = .int .i64 (x4 : Int) := gdv (hb.2.2 4 (by kernel_rfl))
      exact ⟨.int .i64 (x4 : Int), by simp [go_sem, e4], rfl⟩
    · refine step_pure rfl fun a u hb hw hf => ?_
      have e4 : a.tmps[4]?.getD undef = .int .i64 (x4 : Int) := gdv (hb.2.2 4 (by kernel_rfl))
      exact ⟨.int .i64 (x4 : Int), by simp [go_sem, e4], rfl⟩
    · refine step_pure rfl fun a u hb hw hf => ?_
      have e5 : a.tmps[5]?.getD undef = .pointer (some ⟨w.heap.size, 0, none⟩) := gdv (hb.2.2 5 (by kernel_rfl))
      have e21 : a.tmps[21]?.getD undef = .int .i64 (x4 : Int) := gdv (hf 1 21 (by kernel_rfl))
      exact ⟨.pointer (some ⟨w.heap.size, x4, none⟩), by simp [go_sem, e5, e21, pl], rfl⟩
    · refine step_pure rfl fun a u hb hw hf => ?_
      have e22 : a.tmps[22]?.getD undef = .pointer (some ⟨w.heap.size, x4, none⟩) := gdv (hf 2 22 (by kernel_rfl))
      have hc := cx _ hw
      exact ⟨.int .u32 D, by simp [go_sem, e22, hc], rfl⟩
    · refine step_pure rfl fun a u hb hw hf => ?_
      have e1 : a.tmps[1]?.getD undef = .int .i64 (x1 : Int) := gdv (hb.2.2 1 (by kernel_rfl))
      exact ⟨.int .i64 (x1 : Int), by simp [go_sem, e1], rfl⟩
    · refine step_pure rfl fun a u hb hw hf => ?_
      have e5 : a.tmps[5]?.getD undef = .pointer (some ⟨w.heap.size, 0, none⟩) := gdv (hb.2.2 5 (by kernel_rfl))
      have e24 : a.tmps[24]?.getD undef = .int .i64 (x1 : Int) := gdv (hf 4 24 (by kernel_rfl))
      exact ⟨.pointer (some ⟨w.heap.size, x1, none⟩), by simp [go_sem, e5, e24, pi], rfl⟩
    · refine step_pure rfl fun a u hb hw hf => ?_
      have e25 : a.tmps[25]?.getD undef = .pointer (some ⟨w.heap.size, x1, none⟩) := gdv (hf 5 25 (by kernel_rfl))
      have hc := cy _ hw
      exact ⟨.int .u32 A1, by simp [go_sem, e25, hc], rfl⟩
    · refine step_pure rfl fun a u hb hw hf => ?_
      have e23 : a.tmps[23]?.getD undef = .int .u32 D := gdv (hf 3 23 (by kernel_rfl))
      have e26 : a.tmps[26]?.getD undef = .int .u32 A1 := gdv (hf 6 26 (by kernel_rfl))
      exact ⟨.int .u32 (bits BinOp.xor IntKind.u32 D A1), by simp [go_sem, e23, e26], rfl⟩
    · refine step_callv rfl 99 _ _ rfl (by kernel_rfl) fun a u hb hw hf => ?_
      have e27 : a.tmps.getD 27 undef = .int .u32 (bits BinOp.xor IntKind.u32 D A1) := hf 7 27 (by kernel_rfl)
      show Calls Tryz.prog 99 #[a.tmps.getD 27 undef, .int .u64 16] u _
      rw [e27]
      exact (L1 u).out
    · refine step_pure rfl fun a u hb hw hf => ?_
      have e5 : a.tmps[5]?.getD undef = .pointer (some ⟨w.heap.size, 0, none⟩) := gdv (hb.2.2 5 (by kernel_rfl))
      have e20 : a.tmps[20]?.getD undef = .int .i64 (x4 : Int) := gdv (hf 0 20 (by kernel_rfl))
      exact ⟨.pointer (some ⟨w.heap.size, x4, none⟩), by simp [go_sem, e5, e20, pl], rfl⟩
  intro a u hb hw hf
  have ep : a.tmps[29]?.getD undef = .pointer (some ⟨w.heap.size, x4, none⟩) := gdv (hf 9 29 (by kernel_rfl))
  have ev : a.tmps[28]?.getD undef = .int .u32 D1 := gdv (hf 8 28 (by kernel_rfl))
  have hcc := cx u hw
  have hff := (hB.up hw).free x4
  have hB' := (hB.up hw).store x4 D1
  rw [set4_l ne ⟨A1, B, C, D⟩] at hB'
  have O2 := Only.setCell u w.heap.size x4 (.int .u32 D1)
  have hZ' := (hZ.up hw).of_block (O2.block (w.heap.size + 1) (by omega))
  have hN' := hN.trans ((hw.mono hN.size).trans (O2.below (Nat.le_refl _)))
  obtain ⟨vs, hvs⟩ : ∃ vs : Nat → Value, ∀ d, a.tmps.getD d undef = vs d := ⟨_, fun _ => rfl⟩
  have ea := puts_of (md := .any) (n := 88) (k := 10) (by kernel_rfl) rfl hb vs hvs
  unfold Oper.wp
  simp [go_sem, ep, ev, hcc, hff]
  rw [ea]
  clear ea hvs ep ev hf hb hcc hff cx cy hB hZ hN hw
  simp only [puts, Act.put, List.setIfInBounds_toArray, List.set_cons_succ, List.set_cons_zero]
  generalize u.setCell ⟨w.heap.size, x4, none⟩ (.int .u32 D1) = wr2 at *
  have hB := hB'
  have hZ := hZ'
  have hN := hN'
  clear O2 hB' hZ' hN'
  have cx : ∀ u, Below wr2.heap.size wr2 u → u.cell? ⟨w.heap.size, x3, none⟩ = some (.int .u32 C) := fun u hu => by
    have := (hB.up hu).cell (i := x3) (by rw [put4_len, HL.out]; exact hk)
    rw [put4_k HL.out ne ⟨A1, B, C, D1⟩ hk] at this
    exact this
  have cy : ∀ u, Below wr2.heap.size wr2 u → u.cell? ⟨w.heap.size, x4, none⟩ = some (.int .u32 D1) := fun u hu => by
    have := (hB.up hu).cell (i := x4) (by rw [put4_len, HL.out]; exact hl)
    rw [put4_l HL.out ne ⟨A1, B, C, D1⟩ hl] at this
    exact this
  go_wp2_with fail
  refine region_store 9 _ (fun i => [Fact.eq (.int .i64 (x3 : Int)), Fact.eq (.int .i64 (x3 : Int)), Fact.eq (.pointer (some ⟨w.heap.size, x3, none⟩)), Fact.eq (.int .u32 C), Fact.eq (.int .i64 (x4 : Int)), Fact.eq (.pointer (some ⟨w.heap.size, x4, none⟩)), Fact.eq (.int .u32 D1), Fact.eq (.int .u32 C1), Fact.eq (.pointer (some ⟨w.heap.size, x3, none⟩))].getD i Fact.no) (by kernel_rfl) (by kernel_rfl) rfl rfl ?_ ?_
  · skip
    intro i hi
    obtain rfl | rfl | rfl | rfl | rfl | rfl | rfl | rfl | rfl : i = 0 ∨ i = 1 ∨ i = 2 ∨ i = 3 ∨ i = 4 ∨ i = 5 ∨ i = 6 ∨ i = 7 ∨ i = 8 := by omega
    · refine step_pure rfl fun a u hb hw hf => ?_
      have e3 : a.tmps[3]?.getD undef = .int .i64 (x3 : Int) := gdv (hb.2.2 3 (by kernel_rfl))
      exact ⟨.int .i64 (x3 : Int), by simp [go_sem, e3], rfl⟩
    · refine step_pure rfl fun a u hb hw hf => ?_
      have e3 : a.tmps[3]?.getD undef = .int .i64 (x3 : Int) := gdv (hb.2.2 3 (by kernel_rfl))
      exact ⟨.int .i64 (x3 : Int), by simp [go_sem, e3], rfl⟩
    · refine step_pure rfl fun a u hb hw hf => ?_
      have e5 : a.tmps[5]?.getD undef = .pointer (some ⟨w.heap.size, 0, none⟩) := gdv (hb.2.2 5 (by kernel_rfl))
      have e31 : a.tmps[31]?.getD undef = .int .i64 (x3 : Int) := gdv (hf 1 31 (by kernel_rfl))
      exact ⟨.pointer (some ⟨w.heap.size, x3, none⟩), by simp [go_sem, e5, e31, pk], rfl⟩
    · refine step_pure rfl fun a u hb hw hf => ?_
      have e32 : a.tmps[32]?.getD undef = .pointer (some ⟨w.heap.size, x3, none⟩) := gdv (hf 2 32 (by kernel_rfl))
      have hc := cx _ hw
      exact ⟨.int .u32 C, by simp [go_sem, e32, hc], rfl⟩
    · refine step_pure rfl fun a u hb hw hf => ?_
      have e4 : a.tmps[4]?.getD undef = .int .i64 (x4 : Int) := gdv (hb.2.2 4 (by kernel_rfl))
      exact ⟨.int .i64 (x4 : Int), by simp [go_sem, e4], rfl⟩
    · refine step_pure rfl fun a u hb hw hf => ?_
      have e5 : a.tmps[5]?.getD undef = .pointer (some ⟨w.heap.size, 0, none⟩) := gdv (hb.2.2 5 (by kernel_rfl))
      have e34 : a.tmps[34]?.getD undef = .int .i64 (x4 : Int) := gdv (hf 4 34 (by kernel_rfl))
      exact ⟨.pointer (some ⟨w.heap.size, x4, none⟩), by simp [go_sem, e5, e34, pl], rfl⟩
    · refine step_pure rfl fun a u hb hw hf => ?_
      have e35 : a.tmps[35]?.getD undef = .pointer (some ⟨w.heap.size, x4, none⟩) := gdv (hf 5 35 (by kernel_rfl))
      have hc := cy _ hw
      exact ⟨.int .u32 D1, by simp [go_sem, e35, hc], rfl⟩
    · refine step_pure rfl fun a u hb hw hf => ?_
      have e33 : a.tmps[33]?.getD undef = .int .u32 C := gdv (hf 3 33 (by kernel_rfl))
      have e36 : a.tmps[36]?.getD undef = .int .u32 D1 := gdv (hf 6 36 (by kernel_rfl))
      exact ⟨.int .u32 C1, by simp [go_sem, e33, e36, IntKind.wrap_u32', f3.out], rfl⟩
    · refine step_pure rfl fun a u hb hw hf => ?_
      have e5 : a.tmps[5]?.getD undef = .pointer (some ⟨w.heap.size, 0, none⟩) := gdv (hb.2.2 5 (by kernel_rfl))
      have e30 : a.tmps[30]?.getD undef = .int .i64 (x3 : Int) := gdv (hf 0 30 (by kernel_rfl))
      exact ⟨.pointer (some ⟨w.heap.size, x3, none⟩), by simp [go_sem, e5, e30, pk], rfl⟩
  intro a u hb hw hf
  have ep : a.tmps[38]?.getD undef = .pointer (some ⟨w.heap.size, x3, none⟩) := gdv (hf 8 38 (by kernel_rfl))
  have ev : a.tmps[37]?.getD undef = .int .u32 C1 := gdv (hf 7 37 (by kernel_rfl))
  have hcc := cx u hw
  have hff := (hB.up hw).free x3
  have hB' := (hB.up hw).store x3 C1
  rw [set4_k ne ⟨A1, B, C, D1⟩] at hB'
  have O2 := Only.setCell u w.heap.size x3 (.int .u32 C1)
  have hZ' := (hZ.up hw).of_block (O2.block (w.heap.size + 1) (by omega))
  have hN' := hN.trans ((hw.mono hN.size).trans (O2.below (Nat.le_refl _)))
  obtain ⟨vs, hvs⟩ : ∃ vs : Nat → Value, ∀ d, a.tmps.getD d undef = vs d := ⟨_, fun _ => rfl⟩
  have ea := puts_of (md := .any) (n := 88) (k := 9) (by kernel_rfl) rfl hb vs hvs
  unfold Oper.wp
  simp [go_sem, ep, ev, hcc, hff]
  rw [ea]
  clear ea hvs ep ev hf hb hcc hff cx cy hB hZ hN hw
  simp only [puts, Act.put, List.setIfInBounds_toArray, List.set_cons_succ, List.set_cons_zero]
  generalize u.setCell ⟨w.heap.size, x3, none⟩ (.int .u32 C1) = wr3 at *
  have hB := hB'
  have hZ := hZ'
  have hN := hN'
  clear O2 hB' hZ' hN'
  have cx : ∀ u, Below wr3.heap.size wr3 u → u.cell? ⟨w.heap.size, x2, none⟩ = some (.int .u32 B) := fun u hu => by
    have := (hB.up hu).cell (i := x2) (by rw [put4_len, HL.out]; exact hj)
    rw [put4_j HL.out ne ⟨A1, B, C1, D1⟩ hj] at this
    exact this
  have cy : ∀ u, Below wr3.heap.size wr3 u → u.cell? ⟨w.heap.size, x3, none⟩ = some (.int .u32 C1) := fun u hu => by
    have := (hB.up hu).cell (i := x3) (by rw [put4_len, HL.out]; exact hk)
    rw [put4_k HL.out ne ⟨A1, B, C1, D1⟩ hk] at this
    exact this
  go_wp2_with fail
  refine region_store 10 _ (fun i => [Fact.eq (.int .i64 (x2 : Int)), Fact.eq (.int .i64 (x2 : Int)), Fact.eq (.pointer (some ⟨w.heap.size, x2, none⟩)), Fact.eq (.int .u32 B), Fact.eq (.int .i64 (x3 : Int)), Fact.eq (.pointer (some ⟨w.heap.size, x3, none⟩)), Fact.eq (.int .u32 C1), Fact.eq (.int .u32 (bits BinOp.xor IntKind.u32 B C1)), Fact.eq (.int .u32 B1), Fact.eq (.pointer (some ⟨w.heap.size, x2, none⟩))].getD i Fact.no) (by kernel_rfl) (by kernel_rfl) rfl rfl ?_ ?_
  · skip
    intro i hi
    obtain rfl | rfl | rfl | rfl | rfl | rfl | rfl | rfl | rfl | rfl : i = 0 ∨ i = 1 ∨ i = 2 ∨ i = 3 ∨ i = 4 ∨ i = 5 ∨ i = 6 ∨ i = 7 ∨ i = 8 ∨ i = 9 := by omega
    · refine step_pure rfl fun a u hb hw hf => ?_
      have e2 : a.tmps[2]?.getD undef = .int .i64 (x2 : Int) := gdv (hb.2.2 2 (by kernel_rfl))
      exact ⟨.int .i64 (x2 : Int), by simp [go_sem, e2], rfl⟩
    · refine step_pure rfl fun a u hb hw hf => ?_
      have e2 : a.tmps[2]?.getD undef = .int .i64 (x2 : Int) := gdv (hb.2.2 2 (by kernel_rfl))
      exact ⟨.int .i64 (x2 : Int), by simp [go_sem, e2], rfl⟩
    · refine step_pure rfl fun a u hb hw hf => ?_
      have e5 : a.tmps[5]?.getD undef = .pointer (some ⟨w.heap.size, 0, none⟩) := gdv (hb.2.2 5 (by kernel_rfl))
      have e40 : a.tmps[40]?.getD undef = .int .i64 (x2 : Int) := gdv (hf 1 40 (by kernel_rfl))
      exact ⟨.pointer (some ⟨w.heap.size, x2, none⟩), by simp [go_sem, e5, e40, pj], rfl⟩
    · refine step_pure rfl fun a u hb hw hf => ?_
      have e41 : a.tmps[41]?.getD undef = .pointer (some ⟨w.heap.size, x2, none⟩) := gdv (hf 2 41 (by kernel_rfl))
      have hc := cx _ hw
      exact ⟨.int .u32 B, by simp [go_sem, e41, hc], rfl⟩
    · refine step_pure rfl fun a u hb hw hf => ?_
      have e3 : a.tmps[3]?.getD undef = .int .i64 (x3 : Int) := gdv (hb.2.2 3 (by kernel_rfl))
      exact ⟨.int .i64 (x3 : Int), by simp [go_sem, e3], rfl⟩
    · refine step_pure rfl fun a u hb hw hf => ?_
      have e5 : a.tmps[5]?.getD undef = .pointer (some ⟨w.heap.size, 0, none⟩) := gdv (hb.2.2 5 (by kernel_rfl))
      have e43 : a.tmps[43]?.getD undef = .int .i64 (x3 : Int) := gdv (hf 4 43 (by kernel_rfl))
      exact ⟨.pointer (some ⟨w.heap.size, x3, none⟩), by simp [go_sem, e5, e43, pk], rfl⟩
    · refine step_pure rfl fun a u hb hw hf => ?_
      have e44 : a.tmps[44]?.getD undef = .pointer (some ⟨w.heap.size, x3, none⟩) := gdv (hf 5 44 (by kernel_rfl))
      have hc := cy _ hw
      exact ⟨.int .u32 C1, by simp [go_sem, e44, hc], rfl⟩
    · refine step_pure rfl fun a u hb hw hf => ?_
      have e42 : a.tmps[42]?.getD undef = .int .u32 B := gdv (hf 3 42 (by kernel_rfl))
      have e45 : a.tmps[45]?.getD undef = .int .u32 C1 := gdv (hf 6 45 (by kernel_rfl))
      exact ⟨.int .u32 (bits BinOp.xor IntKind.u32 B C1), by simp [go_sem, e42, e45], rfl⟩
    · refine step_callv rfl 99 _ _ rfl (by kernel_rfl) fun a u hb hw hf => ?_
      have e46 : a.tmps.getD 46 undef = .int .u32 (bits BinOp.xor IntKind.u32 B C1) := hf 7 46 (by kernel_rfl)
      show Calls Tryz.prog 99 #[a.tmps.getD 46 undef, .int .u64 12] u _
      rw [e46]
      exact (L2 u).out
    · refine step_pure rfl fun a u hb hw hf => ?_
      have e5 : a.tmps[5]?.getD undef = .pointer (some ⟨w.heap.size, 0, none⟩) := gdv (hb.2.2 5 (by kernel_rfl))
      have e39 : a.tmps[39]?.getD undef = .int .i64 (x2 : Int) := gdv (hf 0 39 (by kernel_rfl))
      exact ⟨.pointer (some ⟨w.heap.size, x2, none⟩), by simp [go_sem, e5, e39, pj], rfl⟩
  intro a u hb hw hf
  have ep : a.tmps[48]?.getD undef = .pointer (some ⟨w.heap.size, x2, none⟩) := gdv (hf 9 48 (by kernel_rfl))
  have ev : a.tmps[47]?.getD undef = .int .u32 B1 := gdv (hf 8 47 (by kernel_rfl))
  have hcc := cx u hw
  have hff := (hB.up hw).free x2
  have hB' := (hB.up hw).store x2 B1
  rw [set4_j ne ⟨A1, B, C1, D1⟩] at hB'
  have O2 := Only.setCell u w.heap.size x2 (.int .u32 B1)
  have hZ' := (hZ.up hw).of_block (O2.block (w.heap.size + 1) (by omega))
  have hN' := hN.trans ((hw.mono hN.size).trans (O2.below (Nat.le_refl _)))
  obtain ⟨vs, hvs⟩ : ∃ vs : Nat → Value, ∀ d, a.tmps.getD d undef = vs d := ⟨_, fun _ => rfl⟩
  have ea := puts_of (md := .any) (n := 88) (k := 10) (by kernel_rfl) rfl hb vs hvs
  unfold Oper.wp
  simp [go_sem, ep, ev, hcc, hff]
  rw [ea]
  clear ea hvs ep ev hf hb hcc hff cx cy hB hZ hN hw
  simp only [puts, Act.put, List.setIfInBounds_toArray, List.set_cons_succ, List.set_cons_zero]
  generalize u.setCell ⟨w.heap.size, x2, none⟩ (.int .u32 B1) = wr4 at *
  have hB := hB'
  have hZ := hZ'
  have hN := hN'
  clear O2 hB' hZ' hN'
  have cx : ∀ u, Below wr4.heap.size wr4 u → u.cell? ⟨w.heap.size, x1, none⟩ = some (.int .u32 A1) := fun u hu => by
    have := (hB.up hu).cell (i := x1) (by rw [put4_len, HL.out]; exact hi)
    rw [put4_i HL.out ne ⟨A1, B1, C1, D1⟩ hi] at this
    exact this
  have cy : ∀ u, Below wr4.heap.size wr4 u → u.cell? ⟨w.heap.size, x2, none⟩ = some (.int .u32 B1) := fun u hu => by
    have := (hB.up hu).cell (i := x2) (by rw [put4_len, HL.out]; exact hj)
    rw [put4_j HL.out ne ⟨A1, B1, C1, D1⟩ hj] at this
    exact this
  go_wp2_with fail
  refine region_store 9 _ (fun i => [Fact.eq (.int .i64 (x1 : Int)), Fact.eq (.int .i64 (x1 : Int)), Fact.eq (.pointer (some ⟨w.heap.size, x1, none⟩)), Fact.eq (.int .u32 A1), Fact.eq (.int .i64 (x2 : Int)), Fact.eq (.pointer (some ⟨w.heap.size, x2, none⟩)), Fact.eq (.int .u32 B1), Fact.eq (.int .u32 A2), Fact.eq (.pointer (some ⟨w.heap.size, x1, none⟩))].getD i Fact.no) (by kernel_rfl) (by kernel_rfl) rfl rfl ?_ ?_
  · skip
    intro i hi
    obtain rfl | rfl | rfl | rfl | rfl | rfl | rfl | rfl | rfl : i = 0 ∨ i = 1 ∨ i = 2 ∨ i = 3 ∨ i = 4 ∨ i = 5 ∨ i = 6 ∨ i = 7 ∨ i = 8 := by omega
    · refine step_pure rfl fun a u hb hw hf => ?_
      have e1 : a.tmps[1]?.getD undef = .int .i64 (x1 : Int) := gdv (hb.2.2 1 (by kernel_rfl))
      exact ⟨.int .i64 (x1 : Int), by simp [go_sem, e1], rfl⟩
    · refine step_pure rfl fun a u hb hw hf => ?_
      have e1 : a.tmps[1]?.getD undef = .int .i64 (x1 : Int) := gdv (hb.2.2 1 (by kernel_rfl))
      exact ⟨.int .i64 (x1 : Int), by simp [go_sem, e1], rfl⟩
    · refine step_pure rfl fun a u hb hw hf => ?_
      have e5 : a.tmps[5]?.getD undef = .pointer (some ⟨w.heap.size, 0, none⟩) := gdv (hb.2.2 5 (by kernel_rfl))
      have e50 : a.tmps[50]?.getD undef = .int .i64 (x1 : Int) := gdv (hf 1 50 (by kernel_rfl))
      exact ⟨.pointer (some ⟨w.heap.size, x1, none⟩), by simp [go_sem, e5, e50, pi], rfl⟩
    · refine step_pure rfl fun a u hb hw hf => ?_
      have e51 : a.tmps[51]?.getD undef = .pointer (some ⟨w.heap.size, x1, none⟩) := gdv (hf 2 51 (by kernel_rfl))
      have hc := cx _ hw
      exact ⟨.int .u32 A1, by simp [go_sem, e51, hc], rfl⟩
    · refine step_pure rfl fun a u hb hw hf => ?_
      have e2 : a.tmps[2]?.getD undef = .int .i64 (x2 : Int) := gdv (hb.2.2 2 (by kernel_rfl))
      exact ⟨.int .i64 (x2 : Int), by simp [go_sem, e2], rfl⟩
    · refine step_pure rfl fun a u hb hw hf => ?_
      have e5 : a.tmps[5]?.getD undef = .pointer (some ⟨w.heap.size, 0, none⟩) := gdv (hb.2.2 5 (by kernel_rfl))
      have e53 : a.tmps[53]?.getD undef = .int .i64 (x2 : Int) := gdv (hf 4 53 (by kernel_rfl))
      exact ⟨.pointer (some ⟨w.heap.size, x2, none⟩), by simp [go_sem, e5, e53, pj], rfl⟩
    · refine step_pure rfl fun a u hb hw hf => ?_
      have e54 : a.tmps[54]?.getD undef = .pointer (some ⟨w.heap.size, x2, none⟩) := gdv (hf 5 54 (by kernel_rfl))
      have hc := cy _ hw
      exact ⟨.int .u32 B1, by simp [go_sem, e54, hc], rfl⟩
    · refine step_pure rfl fun a u hb hw hf => ?_
      have e52 : a.tmps[52]?.getD undef = .int .u32 A1 := gdv (hf 3 52 (by kernel_rfl))
      have e55 : a.tmps[55]?.getD undef = .int .u32 B1 := gdv (hf 6 55 (by kernel_rfl))
      exact ⟨.int .u32 A2, by simp [go_sem, e52, e55, IntKind.wrap_u32', f5.out], rfl⟩
    · refine step_pure rfl fun a u hb hw hf => ?_
      have e5 : a.tmps[5]?.getD undef = .pointer (some ⟨w.heap.size, 0, none⟩) := gdv (hb.2.2 5 (by kernel_rfl))
      have e49 : a.tmps[49]?.getD undef = .int .i64 (x1 : Int) := gdv (hf 0 49 (by kernel_rfl))
      exact ⟨.pointer (some ⟨w.heap.size, x1, none⟩), by simp [go_sem, e5, e49, pi], rfl⟩
  intro a u hb hw hf
  have ep : a.tmps[57]?.getD undef = .pointer (some ⟨w.heap.size, x1, none⟩) := gdv (hf 8 57 (by kernel_rfl))
  have ev : a.tmps[56]?.getD undef = .int .u32 A2 := gdv (hf 7 56 (by kernel_rfl))
  have hcc := cx u hw
  have hff := (hB.up hw).free x1
  have hB' := (hB.up hw).store x1 A2
  rw [set4_i ne ⟨A1, B1, C1, D1⟩] at hB'
  have O2 := Only.setCell u w.heap.size x1 (.int .u32 A2)
  have hZ' := (hZ.up hw).of_block (O2.block (w.heap.size + 1) (by omega))
  have hN' := hN.trans ((hw.mono hN.size).trans (O2.below (Nat.le_refl _)))
  obtain ⟨vs, hvs⟩ : ∃ vs : Nat → Value, ∀ d, a.tmps.getD d undef = vs d := ⟨_, fun _ => rfl⟩
  have ea := puts_of (md := .any) (n := 88) (k := 9) (by kernel_rfl) rfl hb vs hvs
  unfold Oper.wp
  simp [go_sem, ep, ev, hcc, hff]
  rw [ea]
  clear ea hvs ep ev hf hb hcc hff cx cy hB hZ hN hw
  simp only [puts, Act.put, List.setIfInBounds_toArray, List.set_cons_succ, List.set_cons_zero]
  generalize u.setCell ⟨w.heap.size, x1, none⟩ (.int .u32 A2) = wr5 at *
  have hB := hB'
  have hZ := hZ'
  have hN := hN'
  clear O2 hB' hZ' hN'
  have cx : ∀ u, Below wr5.heap.size wr5 u → u.cell? ⟨w.heap.size, x4, none⟩ = some (.int .u32 D1) := fun u hu => by
    have := (hB.up hu).cell (i := x4) (by rw [put4_len, HL.out]; exact hl)
    rw [put4_l HL.out ne ⟨A2, B1, C1, D1⟩ hl] at this
    exact this
  have cy : ∀ u, Below wr5.heap.size wr5 u → u.cell? ⟨w.heap.size, x1, none⟩ = some (.int .u32 A2) := fun u hu => by
    have := (hB.up hu).cell (i := x1) (by rw [put4_len, HL.out]; exact hi)
    rw [put4_i HL.out ne ⟨A2, B1, C1, D1⟩ hi] at this
    exact this
  go_wp2_with fail
  refine region_store 10 _ (fun i => [Fact.eq (.int .i64 (x4 : Int)), Fact.eq (.int .i64 (x4 : Int)), Fact.eq (.pointer (some ⟨w.heap.size, x4, none⟩)), Fact.eq (.int .u32 D1), Fact.eq (.int .i64 (x1 : Int)), Fact.eq (.pointer (some ⟨w.heap.size, x1, none⟩)), Fact.eq (.int .u32 A2), Fact.eq (.int .u32 (bits BinOp.xor IntKind.u32 D1 A2)), Fact.eq (.int .u32 D2), Fact.eq (.pointer (some ⟨w.heap.size, x4, none⟩))].getD i Fact.no) (by kernel_rfl) (by kernel_rfl) rfl rfl ?_ ?_
  · skip
    intro i hi
    obtain rfl | rfl | rfl | rfl | rfl | rfl | rfl | rfl | rfl | rfl : i = 0 ∨ i = 1 ∨ i = 2 ∨ i = 3 ∨ i = 4 ∨ i = 5 ∨ i = 6 ∨ i = 7 ∨ i = 8 ∨ i = 9 := by omega
    · refine step_pure rfl fun a u hb hw hf => ?_
      have e4 : a.tmps[4]?.getD undef = .int .i64 (x4 : Int) := gdv (hb.2.2 4 (by kernel_rfl))
      exact ⟨.int .i64 (x4 : Int), by simp [go_sem, e4], rfl⟩
    · refine step_pure rfl fun a u hb hw hf => ?_
      have e4 : a.tmps[4]?.getD undef = .int .i64 (x4 : Int) := gdv (hb.2.2 4 (by kernel_rfl))
      exact ⟨.int .i64 (x4 : Int), by simp [go_sem, e4], rfl⟩
    · refine step_pure rfl fun a u hb hw hf => ?_
      have e5 : a.tmps[5]?.getD undef = .pointer (some ⟨w.heap.size, 0, none⟩) := gdv (hb.2.2 5 (by kernel_rfl))
      have e59 : a.tmps[59]?.getD undef = .int .i64 (x4 : Int) := gdv (hf 1 59 (by kernel_rfl))
      exact ⟨.pointer (some ⟨w.heap.size, x4, none⟩), by simp [go_sem, e5, e59, pl], rfl⟩
    · refine step_pure rfl fun a u hb hw hf => ?_
      have e60 : a.tmps[60]?.getD undef = .pointer (some ⟨w.heap.size, x4, none⟩) := gdv (hf 2 60 (by kernel_rfl))
      have hc := cx _ hw
      exact ⟨.int .u32 D1, by simp [go_sem, e60, hc], rfl⟩
    · refine step_pure rfl fun a u hb hw hf => ?_
      have e1 : a.tmps[1]?.getD undef = .int .i64 (x1 : Int) := gdv (hb.2.2 1 (by kernel_rfl))
      exact ⟨.int .i64 (x1 : Int), by simp [go_sem, e1], rfl⟩
    · refine step_pure rfl fun a u hb hw hf => ?_
      have e5 : a.tmps[5]?.getD undef = .pointer (some ⟨w.heap.size, 0, none⟩) := gdv (hb.2.2 5 (by kernel_rfl))
      have e62 : a.tmps[62]?.getD undef = .int .i64 (x1 : Int) := gdv (hf 4 62 (by kernel_rfl))
      exact ⟨.pointer (some ⟨w.heap.size, x1, none⟩), by simp [go_sem, e5, e62, pi], rfl⟩
    · refine step_pure rfl fun a u hb hw hf => ?_
      have e63 : a.tmps[63]?.getD undef = .pointer (some ⟨w.heap.size, x1, none⟩) := gdv (hf 5 63 (by kernel_rfl))
      have hc := cy _ hw
      exact ⟨.int .u32 A2, by simp [go_sem, e63, hc], rfl⟩
    · refine step_pure rfl fun a u hb hw hf => ?_
      have e61 : a.tmps[61]?.getD undef = .int .u32 D1 := gdv (hf 3 61 (by kernel_rfl))
      have e64 : a.tmps[64]?.getD undef = .int .u32 A2 := gdv (hf 6 64 (by kernel_rfl))
      exact ⟨.int .u32 (bits BinOp.xor IntKind.u32 D1 A2), by simp [go_sem, e61, e64], rfl⟩
    · refine step_callv rfl 99 _ _ rfl (by kernel_rfl) fun a u hb hw hf => ?_
      have e65 : a.tmps.getD 65 undef = .int .u32 (bits BinOp.xor IntKind.u32 D1 A2) := hf 7 65 (by kernel_rfl)
      show Calls Tryz.prog 99 #[a.tmps.getD 65 undef, .int .u64 8] u _
      rw [e65]
      exact (L3 u).out
    · refine step_pure rfl fun a u hb hw hf => ?_
      have e5 : a.tmps[5]?.getD undef = .pointer (some ⟨w.heap.size, 0, none⟩) := gdv (hb.2.2 5 (by kernel_rfl))
      have e58 : a.tmps[58]?.getD undef = .int .i64 (x4 : Int) := gdv (hf 0 58 (by kernel_rfl))
      exact ⟨.pointer (some ⟨w.heap.size, x4, none⟩), by simp [go_sem, e5, e58, pl], rfl⟩
  intro a u hb hw hf
  have ep : a.tmps[67]?.getD undef = .pointer (some ⟨w.heap.size, x4, none⟩) := gdv (hf 9 67 (by kernel_rfl))
  have ev : a.tmps[66]?.getD undef = .int .u32 D2 := gdv (hf 8 66 (by kernel_rfl))
  have hcc := cx u hw
  have hff := (hB.up hw).free x4
  have hB' := (hB.up hw).store x4 D2
  rw [set4_l ne ⟨A2, B1, C1, D1⟩] at hB'
  have O2 := Only.setCell u w.heap.size x4 (.int .u32 D2)
  have hZ' := (hZ.up hw).of_block (O2.block (w.heap.size + 1) (by omega))
  have hN' := hN.trans ((hw.mono hN.size).trans (O2.below (Nat.le_refl _)))
  obtain ⟨vs, hvs⟩ : ∃ vs : Nat → Value, ∀ d, a.tmps.getD d undef = vs d := ⟨_, fun _ => rfl⟩
  have ea := puts_of (md := .any) (n := 88) (k := 10) (by kernel_rfl) rfl hb vs hvs
  unfold Oper.wp
  simp [go_sem, ep, ev, hcc, hff]
  rw [ea]
  clear ea hvs ep ev hf hb hcc hff cx cy hB hZ hN hw
  simp only [puts, Act.put, List.setIfInBounds_toArray, List.set_cons_succ, List.set_cons_zero]
  generalize u.setCell ⟨w.heap.size, x4, none⟩ (.int .u32 D2) = wr6 at *
  have hB := hB'
  have hZ := hZ'
  have hN := hN'
  clear O2 hB' hZ' hN'
  have cx : ∀ u, Below wr6.heap.size wr6 u → u.cell? ⟨w.heap.size, x3, none⟩ = some (.int .u32 C1) := fun u hu => by
    have := (hB.up hu).cell (i := x3) (by rw [put4_len, HL.out]; exact hk)
    rw [put4_k HL.out ne ⟨A2, B1, C1, D2⟩ hk] at this
    exact this
  have cy : ∀ u, Below wr6.heap.size wr6 u → u.cell? ⟨w.heap.size, x4, none⟩ = some (.int .u32 D2) := fun u hu => by
    have := (hB.up hu).cell (i := x4) (by rw [put4_len, HL.out]; exact hl)
    rw [put4_l HL.out ne ⟨A2, B1, C1, D2⟩ hl] at this
    exact this
  go_wp2_with fail
  refine region_store 9 _ (fun i => [Fact.eq (.int .i64 (x3 : Int)), Fact.eq (.int .i64 (x3 : Int)), Fact.eq (.pointer (some ⟨w.heap.size, x3, none⟩)), Fact.eq (.int .u32 C1), Fact.eq (.int .i64 (x4 : Int)), Fact.eq (.pointer (some ⟨w.heap.size, x4, none⟩)), Fact.eq (.int .u32 D2), Fact.eq (.int .u32 C2), Fact.eq (.pointer (some ⟨w.heap.size, x3, none⟩))].getD i Fact.no) (by kernel_rfl) (by kernel_rfl) rfl rfl ?_ ?_
  · skip
    intro i hi
    obtain rfl | rfl | rfl | rfl | rfl | rfl | rfl | rfl | rfl : i = 0 ∨ i = 1 ∨ i = 2 ∨ i = 3 ∨ i = 4 ∨ i = 5 ∨ i = 6 ∨ i = 7 ∨ i = 8 := by omega
    · refine step_pure rfl fun a u hb hw hf => ?_
      have e3 : a.tmps[3]?.getD undef = .int .i64 (x3 : Int) := gdv (hb.2.2 3 (by kernel_rfl))
      exact ⟨.int .i64 (x3 : Int), by simp [go_sem, e3], rfl⟩
    · refine step_pure rfl fun a u hb hw hf => ?_
      have e3 : a.tmps[3]?.getD undef = .int .i64 (x3 : Int) := gdv (hb.2.2 3 (by kernel_rfl))
      exact ⟨.int .i64 (x3 : Int), by simp [go_sem, e3], rfl⟩
    · refine step_pure rfl fun a u hb hw hf => ?_
      have e5 : a.tmps[5]?.getD undef = .pointer (some ⟨w.heap.size, 0, none⟩) := gdv (hb.2.2 5 (by kernel_rfl))
      have e69 : a.tmps[69]?.getD undef = .int .i64 (x3 : Int) := gdv (hf 1 69 (by kernel_rfl))
      exact ⟨.pointer (some ⟨w.heap.size, x3, none⟩), by simp [go_sem, e5, e69, pk], rfl⟩
    · refine step_pure rfl fun a u hb hw hf => ?_
      have e70 : a.tmps[70]?.getD undef = .pointer (some ⟨w.heap.size, x3, none⟩) := gdv (hf 2 70 (by kernel_rfl))
      have hc := cx _ hw
      exact ⟨.int .u32 C1, by simp [go_sem, e70, hc], rfl⟩
    · refine step_pure rfl fun a u hb hw hf => ?_
      have e4 : a.tmps[4]?.getD undef = .int .i64 (x4 : Int) := gdv (hb.2.2 4 (by kernel_rfl))
      exact ⟨.int .i64 (x4 : Int), by simp [go_sem, e4], rfl⟩
    · refine step_pure rfl fun a u hb hw hf => ?_
      have e5 : a.tmps[5]?.getD undef = .pointer (some ⟨w.heap.size, 0, none⟩) := gdv (hb.2.2 5 (by kernel_rfl))
      have e72 : a.tmps[72]?.getD undef = .int .i64 (x4 : Int) := gdv (hf 4 72 (by kernel_rfl))
      exact ⟨.pointer (some ⟨w.heap.size, x4, none⟩), by simp [go_sem, e5, e72, pl], rfl⟩
    · refine step_pure rfl fun a u hb hw hf => ?_
      have e73 : a.tmps[73]?.getD undef = .pointer (some ⟨w.heap.size, x4, none⟩) := gdv (hf 5 73 (by kernel_rfl))
      have hc := cy _ hw
      exact ⟨.int .u32 D2, by simp [go_sem, e73, hc], rfl⟩
    · refine step_pure rfl fun a u hb hw hf => ?_
      have e71 : a.tmps[71]?.getD undef = .int .u32 C1 := gdv (hf 3 71 (by kernel_rfl))
      have e74 : a.tmps[74]?.getD undef = .int .u32 D2 := gdv (hf 6 74 (by kernel_rfl))
      exact ⟨.int .u32 C2, by simp [go_sem, e71, e74, IntKind.wrap_u32', f7.out], rfl⟩
    · refine step_pure rfl fun a u hb hw hf => ?_
      have e5 : a.tmps[5]?.getD undef = .pointer (some ⟨w.heap.size, 0, none⟩) := gdv (hb.2.2 5 (by kernel_rfl))
      have e68 : a.tmps[68]?.getD undef = .int .i64 (x3 : Int) := gdv (hf 0 68 (by kernel_rfl))
      exact ⟨.pointer (some ⟨w.heap.size, x3, none⟩), by simp [go_sem, e5, e68, pk], rfl⟩
  intro a u hb hw hf
  have ep : a.tmps[76]?.getD undef = .pointer (some ⟨w.heap.size, x3, none⟩) := gdv (hf 8 76 (by kernel_rfl))
  have ev : a.tmps[75]?.getD undef = .int .u32 C2 := gdv (hf 7 75 (by kernel_rfl))
  have hcc := cx u hw
  have hff := (hB.up hw).free x3
  have hB' := (hB.up hw).store x3 C2
  rw [set4_k ne ⟨A2, B1, C1, D2⟩] at hB'
  have O2 := Only.setCell u w.heap.size x3 (.int .u32 C2)
  have hZ' := (hZ.up hw).of_block (O2.block (w.heap.size + 1) (by omega))
  have hN' := hN.trans ((hw.mono hN.size).trans (O2.below (Nat.le_refl _)))
  obtain ⟨vs, hvs⟩ : ∃ vs : Nat → Value, ∀ d, a.tmps.getD d undef = vs d := ⟨_, fun _ => rfl⟩
  have ea := puts_of (md := .any) (n := 88) (k := 9) (by kernel_rfl) rfl hb vs hvs
  unfold Oper.wp
  simp [go_sem, ep, ev, hcc, hff]
  rw [ea]
  clear ea hvs ep ev hf hb hcc hff cx cy hB hZ hN hw
  simp only [puts, Act.put, List.setIfInBounds_toArray, List.set_cons_succ, List.set_cons_zero]
  generalize u.setCell ⟨w.heap.size, x3, none⟩ (.int .u32 C2) = wr7 at *
  have hB := hB'
  have hZ := hZ'
  have hN := hN'
  clear O2 hB' hZ' hN'
  have cx : ∀ u, Below wr7.heap.size wr7 u → u.cell? ⟨w.heap.size, x2, none⟩ = some (.int .u32 B1) := fun u hu => by
    have := (hB.up hu).cell (i := x2) (by rw [put4_len, HL.out]; exact hj)
    rw [put4_j HL.out ne ⟨A2, B1, C2, D2⟩ hj] at this
    exact this
  have cy : ∀ u, Below wr7.heap.size wr7 u → u.cell? ⟨w.heap.size, x3, none⟩ = some (.int .u32 C2) := fun u hu => by
    have := (hB.up hu).cell (i := x3) (by rw [put4_len, HL.out]; exact hk)
    rw [put4_k HL.out ne ⟨A2, B1, C2, D2⟩ hk] at this
    exact this
  go_wp2_with fail
  refine region_store 10 _ (fun i => [Fact.eq (.int .i64 (x2 : Int)), Fact.eq (.int .i64 (x2 : Int)), Fact.eq (.pointer (some ⟨w.heap.size, x2, none⟩)), Fact.eq (.int .u32 B1), Fact.eq (.int .i64 (x3 : Int)), Fact.eq (.pointer (some ⟨w.heap.size, x3, none⟩)), Fact.eq (.int .u32 C2), Fact.eq (.int .u32 (bits BinOp.xor IntKind.u32 B1 C2)), Fact.eq (.int .u32 B2), Fact.eq (.pointer (some ⟨w.heap.size, x2, none⟩))].getD i Fact.no) (by kernel_rfl) (by kernel_rfl) rfl rfl ?_ ?_
  · skip
    intro i hi
    obtain rfl | rfl | rfl | rfl | rfl | rfl | rfl | rfl | rfl | rfl : i = 0 ∨ i = 1 ∨ i = 2 ∨ i = 3 ∨ i = 4 ∨ i = 5 ∨ i = 6 ∨ i = 7 ∨ i = 8 ∨ i = 9 := by omega
    · refine step_pure rfl fun a u hb hw hf => ?_
      have e2 : a.tmps[2]?.getD undef = .int .i64 (x2 : Int) := gdv (hb.2.2 2 (by kernel_rfl))
      exact ⟨.int .i64 (x2 : Int), by simp [go_sem, e2], rfl⟩
    · refine step_pure rfl fun a u hb hw hf => ?_
      have e2 : a.tmps[2]?.getD undef = .int .i64 (x2 : Int) := gdv (hb.2.2 2 (by kernel_rfl))
      exact ⟨.int .i64 (x2 : Int), by simp [go_sem, e2], rfl⟩
    · refine step_pure rfl fun a u hb hw hf => ?_
      have e5 : a.tmps[5]?.getD undef = .pointer (some ⟨w.heap.size, 0, none⟩) := gdv (hb.2.2 5 (by kernel_rfl))
      have e78 : a.tmps[78]?.getD undef = .int .i64 (x2 : Int) := gdv (hf 1 78 (by kernel_rfl))
      exact ⟨.pointer (some ⟨w.heap.size, x2, none⟩), by simp [go_sem, e5, e78, pj], rfl⟩
    · refine step_pure rfl fun a u hb hw hf => ?_
      have e79 : a.tmps[79]?.getD undef = .pointer (some ⟨w.heap.size, x2, none⟩) := gdv (hf 2 79 (by kernel_rfl))
      have hc := cx _ hw
      exact ⟨.int .u32 B1, by simp [go_sem, e79, hc], rfl⟩
    · refine step_pure rfl fun a u hb hw hf => ?_
      have e3 : a.tmps[3]?.getD undef = .int .i64 (x3 : Int) := gdv (hb.2.2 3 (by kernel_rfl))
      exact ⟨.int .i64 (x3 : Int), by simp [go_sem, e3], rfl⟩
    · refine step_pure rfl fun a u hb hw hf => ?_
      have e5 : a.tmps[5]?.getD undef = .pointer (some ⟨w.heap.size, 0, none⟩) := gdv (hb.2.2 5 (by kernel_rfl))
      have e81 : a.tmps[81]?.getD undef = .int .i64 (x3 : Int) := gdv (hf 4 81 (by kernel_rfl))
      exact ⟨.pointer (some ⟨w.heap.size, x3, none⟩), by simp [go_sem, e5, e81, pk], rfl⟩
    · refine step_pure rfl fun a u hb hw hf => ?_
      have e82 : a.tmps[82]?.getD undef = .pointer (some ⟨w.heap.size, x3, none⟩) := gdv (hf 5 82 (by kernel_rfl))
      have hc := cy _ hw
      exact ⟨.int .u32 C2, by simp [go_sem, e82, hc], rfl⟩
    · refine step_pure rfl fun a u hb hw hf => ?_
      have e80 : a.tmps[80]?.getD undef = .int .u32 B1 := gdv (hf 3 80 (by kernel_rfl))
      have e83 : a.tmps[83]?.getD undef = .int .u32 C2 := gdv (hf 6 83 (by kernel_rfl))
      exact ⟨.int .u32 (bits BinOp.xor IntKind.u32 B1 C2), by simp [go_sem, e80, e83], rfl⟩
    · refine step_callv rfl 99 _ _ rfl (by kernel_rfl) fun a u hb hw hf => ?_
      have e84 : a.tmps.getD 84 undef = .int .u32 (bits BinOp.xor IntKind.u32 B1 C2) := hf 7 84 (by kernel_rfl)
      show Calls Tryz.prog 99 #[a.tmps.getD 84 undef, .int .u64 7] u _
      rw [e84]
      exact (L4 u).out
    · refine step_pure rfl fun a u hb hw hf => ?_
      have e5 : a.tmps[5]?.getD undef = .pointer (some ⟨w.heap.size, 0, none⟩) := gdv (hb.2.2 5 (by kernel_rfl))
      have e77 : a.tmps[77]?.getD undef = .int .i64 (x2 : Int) := gdv (hf 0 77 (by kernel_rfl))
      exact ⟨.pointer (some ⟨w.heap.size, x2, none⟩), by simp [go_sem, e5, e77, pj], rfl⟩
  intro a u hb hw hf
  have ep : a.tmps[86]?.getD undef = .pointer (some ⟨w.heap.size, x2, none⟩) := gdv (hf 9 86 (by kernel_rfl))
  have ev : a.tmps[85]?.getD undef = .int .u32 B2 := gdv (hf 8 85 (by kernel_rfl))
  have hcc := cx u hw
  have hff := (hB.up hw).free x2
  have hB' := (hB.up hw).store x2 B2
  rw [set4_j ne ⟨A2, B1, C2, D2⟩] at hB'
  have O2 := Only.setCell u w.heap.size x2 (.int .u32 B2)
  have hZ' := (hZ.up hw).of_block (O2.block (w.heap.size + 1) (by omega))
  have hN' := hN.trans ((hw.mono hN.size).trans (O2.below (Nat.le_refl _)))
  obtain ⟨vs, hvs⟩ : ∃ vs : Nat → Value, ∀ d, a.tmps.getD d undef = vs d := ⟨_, fun _ => rfl⟩
  have ea := puts_of (md := .any) (n := 88) (k := 10) (by kernel_rfl) rfl hb vs hvs
  unfold Oper.wp
  simp [go_sem, ep, ev, hcc, hff]
  rw [ea]
  clear ea hvs ep ev hf hb hcc hff cx cy hB hZ hN hw
  simp only [puts, Act.put, List.setIfInBounds_toArray, List.set_cons_succ, List.set_cons_zero]
  generalize u.setCell ⟨w.heap.size, x2, none⟩ (.int .u32 B2) = wr8 at *
  have hB := hB'
  have hZ := hZ'
  have hN := hN'
  clear O2 hB' hZ' hN'
  have RG := (Seg.blk hB).range
  have L : Hid (((put4 ys x1 x2 x3 x4 ⟨A2, B2, C2, D2⟩).map (Value.int .u32)).length = 16) := by show _ = _; rw [List.length_map, put4_len]; exact HL.out
  have O := one_ints .u32 (put4 ys x1 x2 x3 x4 ⟨A2, B2, C2, D2⟩)
  obtain ⟨t0, H0⟩ := hZ
  have SR := setRow_heap wr8 (w.heap.size + 1) _ ((put4 ys x1 x2 x3 x4 ⟨A2, B2, C2, D2⟩).map (Value.int .u32)).toArray _ _ H0
  have SN : Below w.heap.size w (wr8.setRow (w.heap.size + 1) ((put4 ys x1 x2 x3 x4 ⟨A2, B2, C2, D2⟩).map (Value.int .u32)).toArray) := hN.trans ((only_setRow wr8 (w.heap.size + 1) _).below (by omega))
  have V : Hid (ag .u32 (put4 ys x1 x2 x3 x4 ⟨A2, B2, C2, D2⟩) = Value.agg ((put4 ys x1 x2 x3 x4 ⟨A2, B2, C2, D2⟩).map (Value.int .u32)).toArray) := rfl
  obtain ⟨vs', hv⟩ : ∃ v, v = (put4 ys x1 x2 x3 x4 ⟨A2, B2, C2, D2⟩).map (Value.int .u32) := ⟨_, rfl⟩
  rw [← hv] at RG L O SR SN V
  clear hv hB
  go_wp2_with (first
    | (refine wpList_load_mid rfl 94 (.tmp 5) rfl w.heap.size 0 rfl vs' (.array 16 93) RG und16 rfl (by rw [L.out]; exact info16) ?_)
    | (refine wpList_store_row rfl 94 (.tmp 10) (.tmp 87) rfl (w.heap.size + 1) vs'.toArray rfl rfl t0 _ H0 (by rw [List.size_toArray, L.out]; exact info16) (by rw [List.size_toArray, List.size_toArray, L.out]; rfl) O ?_))
  exact bodyPost_ret (v := .agg vs'.toArray) (results_cell_row Tryz.results74 _ _ (w.heap.size + 1) t0 vs'.toArray (0, 0) (.array 16 93) rfl SR und16 rfl (by rw [List.size_toArray, L.out]; exact info16)) rfl ⟨by rw [V.out], SN⟩
end Go.Proofs.YtjfggcefdobooaaGreatDoor
namespace Go.Proofs.YtjfggcefdobooaaGreatDoor
set_option maxRecDepth 100000
open Go Go.RowKit
set_option maxHeartbeats 1000000 in
theorem fits_any (w : World) (a a' : Option Addr) (c c' : Nat) (key non : List Int) (ct : Int) : Calls Tryz.prog 47 #[.slice a key.length c, .int .i64 ct, .slice a' non.length c'] w fun e w' => e = .returned (.bool (fitB key ct non)) ∧ w' = w := by
  unfold fitB
  generalize key.length = n at *
  generalize non.length = m at *
  by_cases h : n = 32
  · subst h
    by_cases h' : m = 12
    · subst h'
      by_cases h1 : 0 ≤ ct
      · by_cases h2 : ct ≤ 4294967295
        · go_enter Tryz.func47, Tryz.ntmps47
          go_wp2
          go_ret
          exact ⟨by simp [h1, h2], rfl⟩
        · have q : decide (ct ≤ 4294967295) = false := by simpa using h2
          go_enter Tryz.func47, Tryz.ntmps47
          go_wp2
          go_ret
          exact ⟨by simp, rfl⟩
      · have q : decide (0 ≤ ct) = false := by simpa using h1
        go_enter Tryz.func47, Tryz.ntmps47
        go_wp2
        go_ret
        exact ⟨by simp, rfl⟩
    · have q : decide ((m : Int) = 12) = false := by simp; omega
      go_enter Tryz.func47, Tryz.ntmps47
      go_wp2
      go_ret
      exact ⟨by simp [h'] <;> omega, rfl⟩
  · have q : decide ((n : Int) = 32) = false := by simp; omega
    go_enter Tryz.func47, Tryz.ntmps47
    go_wp2
    go_ret
    exact ⟨by simp [h], rfl⟩
def clA (ys : List Int) : Nat → List Int
  | 0 => ys
  | i + 1 => qrL (clA ys i) i (4 + i) (8 + i) (12 + i)
def clB (ys : List Int) : Nat → List Int
  | 0 => ys
  | i + 1 => qrL (clB ys i) i (4 + (i + 1) % 4) (8 + (i + 2) % 4) (12 + (i + 3) % 4)
theorem clA_len (ys : List Int) : ∀ i, (clA ys i).length = ys.length
  | 0 => rfl
  | i + 1 => by rw [clA, qrL_len]; exact clA_len ys i
theorem clB_len (ys : List Int) : ∀ i, (clB ys i).length = ys.length
  | 0 => rfl
  | i + 1 => by rw [clB, qrL_len]; exact clB_len ys i
theorem clA_ws {ys : List Int} (h : Ws ys) : ∀ i, Ws (clA ys i)
  | 0 => h
  | i + 1 => (clA_ws h i).qr _ _ _ _
theorem clB_ws {ys : List Int} (h : Ws ys) : ∀ i, Ws (clB ys i)
  | 0 => h
  | i + 1 => (clB_ws h i).qr _ _ _ _
theorem dbl_cl (ys : List Int) : clB (clA ys 4) 4 = dbl ys := by
  unfold dbl
  simp only [clA, clB, Nat.zero_add, Nat.reduceAdd, Nat.reduceMod, Nat.add_zero]
def oW (v : Int) : List Int := [v % 256, v / 256 % 256, v / 65536 % 256, v / 16777216]
def oL (st rs : List Int) : Nat → List Int
  | 0 => []
  | n + 1 => oL st rs n ++ oW ((rs.getD n 0 + st.getD n 0) % 4294967296)
theorem oL_len (st rs : List Int) : ∀ n, (oL st rs n).length = 4 * n
  | 0 => rfl
  | n + 1 => by rw [oL, List.length_append, oL_len st rs n]; rfl
theorem fill_succ (f : Nat → Int) (n : Nat) : fill f (n + 1) = fill f n ++ [f n] := by unfold fill; rw [List.range_succ, List.map_append]; rfl
theorem oL_fill (st rs : List Int) : ∀ n, oL st rs n = fill (stF st rs) (4 * n)
  | 0 => rfl
  | n + 1 => by
    rw [oL, oL_fill st rs n, show 4 * (n + 1) = 4 * n + 1 + 1 + 1 + 1 by omega, fill_succ, fill_succ, fill_succ, fill_succ]
    have e : ∀ j, j < 4 → stF st rs (4 * n + j) = (rs.getD n 0 + st.getD n 0) % 4294967296 / 2 ^ (8 * j) % 256 := fun j hj => by
      unfold stF
      rw [show (4 * n + j) / 4 = n by omega, show (4 * n + j) % 4 = j by omega, Int.add_comm]
    have e0 := e 0 (by decide)
    have e1 := e 1 (by decide)
    have e2 := e 2 (by decide)
    have e3 := e 3 (by decide)
    rw [Nat.add_zero] at e0
    rw [show 4 * n + 1 + 1 = 4 * n + 2 by omega, show 4 * n + 2 + 1 = 4 * n + 3 by omega, e0, e1, e2, e3]
    have v0 : 0 ≤ (rs.getD n 0 + st.getD n 0) % 4294967296 ∧ (rs.getD n 0 + st.getD n 0) % 4294967296 < 4294967296 := ⟨by omega, by omega⟩
    generalize (rs.getD n 0 + st.getD n 0) % 4294967296 = v at *
    have e4 : v / 16777216 % 256 = v / 16777216 := by omega
    unfold oW
    simp [e4]
theorem wsF_set (ys : List Int) (c : Int) (xs : List Int) (pl : Nat) (h : 12 < pl) : ∀ k, wsF (ys.set 12 c) pl xs k = (wsF ys pl xs k).set 12 c
  | 0 => rfl
  | k + 1 => by rw [wsF, wsF, wsF_set ys c xs pl h k, List.set_comm _ _ (by omega)]
set_option maxRecDepth 100000 in
set_option maxHeartbeats 8000000 in
theorem specBlock_core (w : World) (g : Nat) (a : Option Addr) (c : Nat) (key : List Int) (hr : Rd w g a .u8 key) (hb : Byt key) (hl : key.length = 32) (hc : key.length ≤ c) (ct : Int) (h0 : 0 ≤ ct) (h1 : ct < 4294967296) (g' : Nat) (a' : Option Addr) (c' : Nat) (non : List Int) (hr' : Rd w g' a' .u8 non) (hb' : Byt non) (hl' : non.length = 12) (hc' : non.length ≤ c')
    (hf : fitB key ct non = true) (rn : Nat) (hrn : rn = 10) :
    Calls Tryz.prog 61 #[.slice a key.length c, .int .i64 ct, .slice a' non.length c'] w fun e w' => NewRow w.heap.size w' e .u8 (fill (stF ((nsW key non).set 12 ct) (rds rn ((nsW key non).set 12 ct))) 64) ∧ Below w.heap.size w w' := by
  have HRN := hide hrn
  clear hrn
  obtain ⟨i0, hi, hz0, hz1, hz2⟩ := info_parts Tryz.info5
  have FT := fits_any w a a' c c' key non ct
  rw [hf] at FT
  clear hf
  have gl := hr.lt (by omega)
  have gl' := hr'.lt (by omega)
  obtain ⟨o, ea, -⟩ := hr (by omega)
  obtain ⟨o', ea', -⟩ := hr' (by omega)
  subst ea
  subst ea'
  have HL := hide hl
  have HL' := hide hl'
  have hcI : (key.length : Int) ≤ (c : Int) := by omega
  have hcI' : (non.length : Int) ≤ (c' : Int) := by omega
  have cw : ct % 4294967296 = ct := by omega
  have n1 : Below w.heap.size w (w.alloc (.cells #[.int .u32 1634760805, .int .u32 857760878, .int .u32 2036477234, .int .u32 1797285236, .int .u32 0, .int .u32 0, .int .u32 0, .int .u32 0, .int .u32 0, .int .u32 0, .int .u32 0, .int .u32 0, .int .u32 0, .int .u32 0, .int .u32 0, .int .u32 0] 94)) := (Below.refl _ _).alloc (Nat.le_refl _) _
  have B1 : Blk (w.alloc (.cells #[.int .u32 1634760805, .int .u32 857760878, .int .u32 2036477234, .int .u32 1797285236, .int .u32 0, .int .u32 0, .int .u32 0, .int .u32 0, .int .u32 0, .int .u32 0, .int .u32 0, .int .u32 0, .int .u32 0, .int .u32 0, .int .u32 0, .int .u32 0] 94)) w.heap.size .u32 st0 := blk_alloc w .u32 94 st0
  have z1 : (w.alloc (.cells #[.int .u32 1634760805, .int .u32 857760878, .int .u32 2036477234, .int .u32 1797285236, .int .u32 0, .int .u32 0, .int .u32 0, .int .u32 0, .int .u32 0, .int .u32 0, .int .u32 0, .int .u32 0, .int .u32 0, .int .u32 0, .int .u32 0, .int .u32 0] 94)).heap.size = w.heap.size + 1 := by simp
  generalize hkl : key.length = kl at *
  generalize hnl : non.length = nl at *
  have HK := hide hkl
  have HN := hide hnl
  clear hkl hnl
  subst hl
  subst hl'
  go_enter Tryz.func61, Tryz.ntmps61
  go_wp2_with fail
  refine FT.mono ?_
  rintro e w1 ⟨rfl, rfl⟩
  clear FT
  go_wp2
  generalize w1.alloc (.cells #[.int .u32 1634760805, .int .u32 857760878, .int .u32 2036477234, .int .u32 1797285236, .int .u32 0, .int .u32 0, .int .u32 0, .int .u32 0, .int .u32 0, .int .u32 0, .int .u32 0, .int .u32 0, .int .u32 0, .int .u32 0, .int .u32 0, .int .u32 0] 94) = wa at *
  go_loopw [8] (fun v wr => ∃ (i : Nat), i ≤ 8 ∧ v = .int .i64 i ∧ Blk wr w1.heap.size .u32 (wsF st0 4 key i) ∧ Below w1.heap.size w1 wr) (fun v _ => 8 - (intOf v).toNat)
  case atStart => exact ⟨0, Nat.zero_le _, rfl, B1, n1⟩
  case round =>
    obtain ⟨i, hi8, rfl, hB, hN⟩ := hrel
    clear B1 n1 z1
    by_cases hlt : i < 8
    · have LWc := l8Word_any wr g (some ⟨g, o + 4 * i, none⟩) (c - 4 * i) _ (rd_part (hr.up hN) (4 * i) (32 - 4 * i) (by rw [HK.out]; omega)) (byt_part hb _ _) (by rw [part_len _ _ _ (by rw [HK.out]; omega)]; omega)
      rw [part_len _ _ _ (by rw [HK.out]; omega)] at LWc
      have lv : lw ((key.drop (4 * i)).take (32 - 4 * i)) 0 = lw key (4 * i) := by
        unfold lw
        rw [part_get key _ _ 0 (by omega), part_get key _ _ (0 + 1) (by omega), part_get key _ _ (0 + 2) (by omega), part_get key _ _ (0 + 3) (by omega)]
        simp only [Nat.zero_add, Nat.add_zero]
      rw [lv] at LWc
      have HC := hide LWc
      have e1 := hB.cell (i := 4 + i) (by rw [wsF_len]; show _ < 16; omega)
      have f1 := hB.free (4 + i)
      have B' := hB.store (4 + i) (lw key (4 * i))
      have WS : Hid ((wsF st0 4 key i).set (4 + i) (lw key (4 * i)) = wsF st0 4 key (i + 1)) := rfl
      have d1 : (4 : Int) + (i : Int) = ((4 + i : Nat) : Int) := by omega
      have d2 : (4 : Int) * (i : Int) = ((4 * i : Nat) : Int) := by omega
      have d3 : ((4 + i : Nat) : Int) < 16 := by omega
      have d4 : ((4 * i : Nat) : Int) ≤ 32 := by omega
      have d5 : 4 * i ≤ 32 := by omega
      have d6 : ¬ (4 * i = c) := by omega
      have d7 : 4 * i < c := by omega
      clear LWc lv B'
      generalize (wsF st0 4 key i).getD (4 + i) 0 = y0 at *
      generalize lw key (4 * i) = lv at *
      generalize 4 + i = p4 at *
      generalize h4 : 4 * i = q4 at *
      go_wp2_with fail
      refine HC.out.mono ?_
      rintro e w2 ⟨rfl, m, rfl⟩
      have hB2 : Blk (wr.drewN m) w1.heap.size .u32 (wsF st0 4 key i) := hB
      have B2 := hB2.store p4 lv
      rw [WS.out] at B2
      have N2 := (below_drewN hN m).trans ((Only.setCell (wr.drewN m) w1.heap.size p4 (.int .u32 lv)).below (Nat.le_refl _))
      clear HC WS hB hB2 hN
      go_wp2
      go_roundw
      case rel => exact ⟨i + 1, by omega, by go_num, B2, N2⟩
      case measure => simp [intOf]; omega
    · obtain rfl : i = 8 := by omega
      rw [show ((8 : Nat) : Int) = 8 from rfl]
      have e12 := hB.cell (i := 12) (by rw [wsF_len]; decide)
      have f12 := hB.free 12
      have B2 := hB.store 12 ct
      have N2 := hN.trans ((Only.setCell wr w1.heap.size 12 (.int .u32 ct)).below (Nat.le_refl _))
      have yl : ((wsF st0 4 key 8).set 12 ct).length = 16 := by rw [List.length_set, wsF_len]; rfl
      have SW : wsF ((wsF st0 4 key 8).set 12 ct) 13 non 3 = (nsW key non).set 12 ct := wsF_set _ ct non 13 (by decide) 3
      generalize (wsF st0 4 key 8).getD 12 0 = y12 at *
      generalize (wsF st0 4 key 8).set 12 ct = yk at *
      have YL := hide yl
      have SWH := hide SW
      clear hB hN yl SW
      go_wp2
      generalize wr.setCell ⟨w1.heap.size, 12, none⟩ (.int .u32 ct) = wb at *
      go_loopw [9] (fun v wr => ∃ (i : Nat), i ≤ 3 ∧ v = .int .i64 i ∧ Blk wr w1.heap.size .u32 (wsF yk 13 non i) ∧ Below w1.heap.size w1 wr) (fun v _ => 3 - (intOf v).toNat)
      case atStart => exact ⟨0, Nat.zero_le _, rfl, B2, N2⟩
      case round =>
        obtain ⟨i, hi3, rfl, hB, hN⟩ := hrel
        clear B2 N2 e12 f12
        by_cases hlt : i < 3
        · have LWc := l8Word_any wr g' (some ⟨g', o' + 4 * i, none⟩) (c' - 4 * i) _ (rd_part (hr'.up hN) (4 * i) (12 - 4 * i) (by rw [HN.out]; omega)) (byt_part hb' _ _) (by rw [part_len _ _ _ (by rw [HN.out]; omega)]; omega)
          rw [part_len _ _ _ (by rw [HN.out]; omega)] at LWc
          have lv : lw ((non.drop (4 * i)).take (12 - 4 * i)) 0 = lw non (4 * i) := by
            unfold lw
            rw [part_get non _ _ 0 (by omega), part_get non _ _ (0 + 1) (by omega), part_get non _ _ (0 + 2) (by omega), part_get non _ _ (0 + 3) (by omega)]
            simp only [Nat.zero_add, Nat.add_zero]
          rw [lv] at LWc
          have HC := hide LWc
          have e1 := hB.cell (i := 13 + i) (by rw [wsF_len, YL.out]; omega)
          have f1 := hB.free (13 + i)
          have WS : Hid ((wsF yk 13 non i).set (13 + i) (lw non (4 * i)) = wsF yk 13 non (i + 1)) := rfl
          have d1 : (13 : Int) + (i : Int) = ((13 + i : Nat) : Int) := by omega
          have d2 : (4 : Int) * (i : Int) = ((4 * i : Nat) : Int) := by omega
          have d3 : ((13 + i : Nat) : Int) < 16 := by omega
          have d4 : ((4 * i : Nat) : Int) ≤ 12 := by omega
          have d5 : 4 * i ≤ 12 := by omega
          have d6 : ¬ (4 * i = c') := by omega
          have d7 : 4 * i < c' := by omega
          clear LWc lv
          generalize (wsF yk 13 non i).getD (13 + i) 0 = y0 at *
          generalize lw non (4 * i) = lv at *
          generalize 13 + i = p4 at *
          generalize h4 : 4 * i = q4 at *
          go_wp2_with fail
          refine HC.out.mono ?_
          rintro e w2 ⟨rfl, m, rfl⟩
          have hB2 : Blk (wr.drewN m) w1.heap.size .u32 (wsF yk 13 non i) := hB
          have B2 := hB2.store p4 lv
          rw [WS.out] at B2
          have N2 := (below_drewN hN m).trans ((Only.setCell (wr.drewN m) w1.heap.size p4 (.int .u32 lv)).below (Nat.le_refl _))
          clear HC WS hB hB2 hN
          go_wp2
          go_roundw
          case rel => exact ⟨i + 1, by omega, by go_num, B2, N2⟩
          case measure => simp [intOf]; omega
        · obtain rfl : i = 3 := by omega
          rw [show ((3 : Nat) : Int) = 3 from rfl]
          rw [SWH.out] at hB
          have sww : Ws ((nsW key non).set 12 ct) := (nsW_ws hb hb').set 12 ⟨h0, h1⟩
          have swl : ((nsW key non).set 12 ct).length = 16 := by rw [List.length_set]; exact nsW_len key non
          clear SWH hr hr' hb hb' HL HL' HK HN YL
          obtain ⟨sw, hsw⟩ : ∃ s, s = (nsW key non).set 12 ct := ⟨_, rfl⟩
          have OUT : Hid (∀ k, k = 16 → fill (stF ((nsW key non).set 12 ct) (rds rn ((nsW key non).set 12 ct))) 64 = oL sw (rds rn sw) k) := fun k hk => by
            rw [oL_fill, hsw, hk]
          rw [← hsw] at hB sww swl
          have SWL := hide swl
          clear hsw swl
          have RG := (Seg.blk hB).range
          have L : Hid ((sw.map (Value.int .u32)).length = 16) := by show _ = _; rw [List.length_map]; exact SWL.out
          have O := one_ints .u32 sw
          have n4 : Below wr.heap.size wr (wr.alloc (.cells #[.int .u32 0, .int .u32 0, .int .u32 0, .int .u32 0, .int .u32 0, .int .u32 0, .int .u32 0, .int .u32 0, .int .u32 0, .int .u32 0, .int .u32 0, .int .u32 0, .int .u32 0, .int .u32 0, .int .u32 0, .int .u32 0] 94)) := (Below.refl _ _).alloc (Nat.le_refl _) _
          have B4 := blk_z16 wr 94
          obtain ⟨t4, H4⟩ := B4
          have SR := blk_setRow (zs := sw) ⟨t4, H4⟩
          have OR := only_setRow (wr.alloc (.cells #[.int .u32 0, .int .u32 0, .int .u32 0, .int .u32 0, .int .u32 0, .int .u32 0, .int .u32 0, .int .u32 0, .int .u32 0, .int .u32 0, .int .u32 0, .int .u32 0, .int .u32 0, .int .u32 0, .int .u32 0, .int .u32 0] 94)) wr.heap.size (sw.map (Value.int .u32)).toArray
          have hB' := (hB.up n4).of_block (OR.block w1.heap.size (by have := hB.lt; omega))
          have N4 := (hN.trans (n4.mono hN.size)).trans (OR.below (B := w1.heap.size) hN.size)
          have qq := hB.lt
          obtain ⟨vy, hvy⟩ : ∃ v, v = sw.map (Value.int .u32) := ⟨_, rfl⟩
          rw [← hvy] at RG L O SR OR hB' N4
          clear hvy hB hN n4
          go_wp2_with (first
            | (refine wpList_load_mid rfl 94 (.tmp 7) rfl w1.heap.size 0 rfl vy (.array 16 93) RG und16 rfl (by rw [L.out]; exact info16) ?_)
            | (refine wpList_store_row rfl 94 (.tmp 10) (.tmp 51) rfl wr.heap.size vy.toArray rfl rfl t4 _ H4 (by rw [List.size_toArray, L.out]; exact info16) (by rw [List.size_toArray, List.size_toArray, L.out]; rfl) O ?_))
          have zz := OR.size
          generalize wr.heap.size = q2 at *
          generalize (wr.alloc (.cells #[.int .u32 0, .int .u32 0, .int .u32 0, .int .u32 0, .int .u32 0, .int .u32 0, .int .u32 0, .int .u32 0, .int .u32 0, .int .u32 0, .int .u32 0, .int .u32 0, .int .u32 0, .int .u32 0, .int .u32 0, .int .u32 0] 94)).setRow q2 vy.toArray = wd at *
          clear H4 OR RG L O zz
          go_loopw [11] (fun v wr => ∃ (r : Nat), r ≤ 10 ∧ v = .int .i64 r ∧ Blk wr w1.heap.size .u32 sw ∧ Blk wr q2 .u32 (rds r sw) ∧ Below w1.heap.size w1 wr) (fun v _ => 10 - (intOf v).toNat)
          case atStart => exact ⟨0, Nat.zero_le _, rfl, hB', SR, N4⟩
          case round =>
            obtain ⟨r, hr10, rfl, hS, hR, hN⟩ := hrel
            clear hB' SR N4
            by_cases rlt : r < 10
            · have yl : (rds r sw).length = 16 := (rds_len sw r).trans SWL.out
              have yw := rds_ws sww r
              have r10 : (r : Int) < 10 := by omega
              have DB : Hid (∀ z, z = dbl (rds r sw) → z = rds (r + 1) sw) := fun z h => h
              generalize rds r sw = y0 at *
              have YL := hide yl
              clear yl
              go_wp2
              go_loopw [12] (fun v wr => ∃ (i : Nat), i ≤ 4 ∧ v = .int .i64 i ∧ Blk wr w1.heap.size .u32 sw ∧ Blk wr q2 .u32 (clA y0 i) ∧ Below w1.heap.size w1 wr) (fun v _ => 4 - (intOf v).toNat)
              case atStart => exact ⟨0, Nat.zero_le _, rfl, hS, hR, hN⟩
              case round =>
                obtain ⟨i, hi4, rfl, gS, gR, gN⟩ := hrel
                clear hS hR hN
                by_cases ilt : i < 4
                · have QC := fun W => hide (l8Quarter_any W (clA y0 i) (clA_ws yw i) ((clA_len y0 i).trans YL.out) i (4 + i) (8 + i) (12 + i) (by omega) (by omega) (by omega) (by omega) ⟨by omega, by omega, by omega, by omega, by omega, by omega⟩)
                  have CA : Hid (qrL (clA y0 i) i (4 + i) (8 + i) (12 + i) = clA y0 (i + 1)) := rfl
                  simp only [CA.out] at QC
                  have RG := (Seg.blk gR).range
                  have L : Hid (((clA y0 i).map (Value.int .u32)).length = 16) := by show _ = _; rw [List.length_map, clA_len]; exact YL.out
                  have LO : Hid (((clA y0 i).map (Value.int .u32)).length = 16) := L
                  have L2 : Hid (((clA y0 (i + 1)).map (Value.int .u32)).length = 16) := by show _ = _; rw [List.length_map, clA_len]; exact YL.out
                  have O2 := one_ints .u32 (clA y0 (i + 1))
                  have V1 : Hid (ag .u32 (clA y0 i) = Value.agg ((clA y0 i).map (Value.int .u32)).toArray) := rfl
                  have V2 : Hid (ag .u32 (clA y0 (i + 1)) = Value.agg ((clA y0 (i + 1)).map (Value.int .u32)).toArray) := rfl
                  simp only [V1.out, V2.out] at QC
                  obtain ⟨v1, hv1⟩ : ∃ v, v = (clA y0 i).map (Value.int .u32) := ⟨_, rfl⟩
                  obtain ⟨v2, hv2⟩ : ∃ v, v = (clA y0 (i + 1)).map (Value.int .u32) := ⟨_, rfl⟩
                  simp only [← hv1, ← hv2] at QC
                  rw [← hv1] at RG L
                  rw [← hv2] at L2 O2
                  have HV2 := hide hv2
                  clear hv1 hv2 V1 V2 CA
                  have d1 : (4 : Int) + (i : Int) = ((4 + i : Nat) : Int) := by omega
                  have d2 : (8 : Int) + (i : Int) = ((8 + i : Nat) : Int) := by omega
                  have d3 : (12 : Int) + (i : Int) = ((12 + i : Nat) : Int) := by omega
                  have i4 : (i : Int) < 4 := by omega
                  generalize 4 + i = x2 at *
                  generalize 8 + i = x3 at *
                  generalize 12 + i = x4 at *
                  go_wp2_with (refine wpList_load_mid rfl 94 (.tmp 10) rfl q2 0 rfl v1 (.array 16 93) RG und16 rfl (by rw [L.out]; exact info16) ?_)
                  refine (QC wr).out.mono ?_
                  rintro e w3 ⟨rfl, n3⟩
                  obtain ⟨t5, H5⟩ := gR.up n3
                  have SR := blk_setRow (zs := clA y0 (i + 1)) ⟨t5, H5⟩
                  rw [← HV2.out] at SR
                  have OR := only_setRow w3 q2 v2.toArray
                  have S3 := (gS.up n3).of_block (OR.block w1.heap.size (by omega))
                  have N3 := (gN.trans (n3.mono gN.size)).trans (OR.below (B := w1.heap.size) (by omega))
                  clear QC RG gS gR gN n3 OR
                  go_wp2_with (refine wpList_store_row rfl 94 (.tmp 10) (.tmp 68) rfl q2 v2.toArray rfl rfl t5 _ H5 (by rw [List.size_toArray, L2.out]; exact info16) (by have a1 := L2.out; have a2 := LO.out; simp only [List.size_toArray]; omega) O2 ?_)
                  go_roundw
                  case rel => exact ⟨i + 1, by omega, by go_num, S3, SR, N3⟩
                  case measure => simp [intOf]; omega
                · obtain rfl : i = 4 := by omega
                  try rw [show ((4 : Nat) : Int) = 4 from rfl]
                  have yw1 := clA_ws yw 4
                  have YL1 := hide ((clA_len y0 4).trans YL.out)
                  have EY : Hid (∃ y, y = clA y0 4) := ⟨_, rfl⟩
                  obtain ⟨y1, hy1⟩ := EY.out
                  rw [← hy1] at gR yw1 YL1
                  have EY := hide hy1
                  clear hy1
                  go_wp2
                  go_loopw [13] (fun v wr => ∃ (i : Nat), i ≤ 4 ∧ v = .int .i64 i ∧ Blk wr w1.heap.size .u32 sw ∧ Blk wr q2 .u32 (clB y1 i) ∧ Below w1.heap.size w1 wr) (fun v _ => 4 - (intOf v).toNat)
                  case atStart => exact ⟨0, Nat.zero_le _, rfl, gS, gR, gN⟩
                  case round =>
                    obtain ⟨i, hi4, rfl, gS, gR, gN⟩ := hrel
                    by_cases ilt : i < 4
                    · have QC := fun W => hide (l8Quarter_any W (clB y1 i) (clB_ws yw1 i) ((clB_len y1 i).trans YL1.out) i (4 + (i + 1) % 4) (8 + (i + 2) % 4) (12 + (i + 3) % 4) (by omega) (by omega) (by omega) (by omega) ⟨by omega, by omega, by omega, by omega, by omega, by omega⟩)
                      have CA : Hid (qrL (clB y1 i) i (4 + (i + 1) % 4) (8 + (i + 2) % 4) (12 + (i + 3) % 4) = clB y1 (i + 1)) := rfl
                      simp only [CA.out] at QC
                      have RG := (Seg.blk gR).range
                      have L : Hid (((clB y1 i).map (Value.int .u32)).length = 16) := by show _ = _; rw [List.length_map, clB_len]; exact YL1.out
                      have LO : Hid (((clB y1 i).map (Value.int .u32)).length = 16) := L
                      have L2 : Hid (((clB y1 (i + 1)).map (Value.int .u32)).length = 16) := by show _ = _; rw [List.length_map, clB_len]; exact YL1.out
                      have O2 := one_ints .u32 (clB y1 (i + 1))
                      have V1 : Hid (ag .u32 (clB y1 i) = Value.agg ((clB y1 i).map (Value.int .u32)).toArray) := rfl
                      have V2 : Hid (ag .u32 (clB y1 (i + 1)) = Value.agg ((clB y1 (i + 1)).map (Value.int .u32)).toArray) := rfl
                      simp only [V1.out, V2.out] at QC
                      obtain ⟨v1, hv1⟩ : ∃ v, v = (clB y1 i).map (Value.int .u32) := ⟨_, rfl⟩
                      obtain ⟨v2, hv2⟩ : ∃ v, v = (clB y1 (i + 1)).map (Value.int .u32) := ⟨_, rfl⟩
                      simp only [← hv1, ← hv2] at QC
                      rw [← hv1] at RG L
                      rw [← hv2] at L2 O2
                      have HV2 := hide hv2
                      clear hv1 hv2 V1 V2 CA
                      obtain ⟨a1, ha1⟩ : ∃ a, a = (i + 1) % 4 := ⟨_, rfl⟩
                      obtain ⟨a2, ha2⟩ : ∃ a, a = (i + 2) % 4 := ⟨_, rfl⟩
                      obtain ⟨a3, ha3⟩ : ∃ a, a = (i + 3) % 4 := ⟨_, rfl⟩
                      simp only [← ha1, ← ha2, ← ha3] at QC
                      have m1 : ((i : Int) + 1) % 4 = (a1 : Int) := by omega
                      have m2 : ((i : Int) + 2) % 4 = (a2 : Int) := by omega
                      have m3 : ((i : Int) + 3) % 4 = (a3 : Int) := by omega
                      have d1 : (4 : Int) + (a1 : Int) = ((4 + a1 : Nat) : Int) := by omega
                      have d2 : (8 : Int) + (a2 : Int) = ((8 + a2 : Nat) : Int) := by omega
                      have d3 : (12 : Int) + (a3 : Int) = ((12 + a3 : Nat) : Int) := by omega
                      have i4 : (i : Int) < 4 := by omega
                      have s1 : 4 + a1 ≤ 15 := by omega
                      have s2 : 8 + a2 ≤ 15 := by omega
                      have s3 : 12 + a3 ≤ 15 := by omega
                      clear ha1 ha2 ha3
                      generalize 4 + a1 = x2 at *
                      generalize 8 + a2 = x3 at *
                      generalize 12 + a3 = x4 at *
                      go_wp2_with (refine wpList_load_mid rfl 94 (.tmp 10) rfl q2 0 rfl v1 (.array 16 93) RG und16 rfl (by rw [L.out]; exact info16) ?_)
                      refine (QC wr).out.mono ?_
                      rintro e w3 ⟨rfl, n3⟩
                      obtain ⟨t5, H5⟩ := gR.up n3
                      have SR := blk_setRow (zs := clB y1 (i + 1)) ⟨t5, H5⟩
                      rw [← HV2.out] at SR
                      have OR := only_setRow w3 q2 v2.toArray
                      have S3 := (gS.up n3).of_block (OR.block w1.heap.size (by omega))
                      have N3 := (gN.trans (n3.mono gN.size)).trans (OR.below (B := w1.heap.size) (by omega))
                      clear QC RG gS gR gN n3 OR
                      go_wp2_with (refine wpList_store_row rfl 94 (.tmp 10) (.tmp 87) rfl q2 v2.toArray rfl rfl t5 _ H5 (by rw [List.size_toArray, L2.out]; exact info16) (by have a1 := L2.out; have a2 := LO.out; simp only [List.size_toArray]; omega) O2 ?_)
                      go_roundw
                      case rel => exact ⟨i + 1, by omega, by go_num, S3, SR, N3⟩
                      case measure => simp [intOf]; omega
                    · obtain rfl : i = 4 := by omega
                      try rw [show ((4 : Nat) : Int) = 4 from rfl]
                      have D8 := DB.out _ (show clB y1 4 = dbl y0 by rw [EY.out]; exact dbl_cl y0)
                      rw [D8] at gR
                      clear D8
                      go_wp2
                      go_roundw
                      case rel => exact ⟨r + 1, by omega, by go_num, gS, gR, gN⟩
                      case measure => simp [intOf]; omega
            · obtain rfl : r = rn := by have := HRN.out; omega
              have RL := hide ((rds_len sw r).trans SWL.out)
              generalize rds r sw = rs at *
              have n5 : Below wr.heap.size wr (wr.alloc (.cells #[] 5)) := (Below.refl _ _).alloc (Nat.le_refl _) _
              have R5 := RowB.lit0 wr
              have ql := hR.lt
              have z5 : (wr.alloc (.cells #[] 5)).heap.size = wr.heap.size + 1 := by simp
              go_wp2
              have S5 := hS.up n5
              have T5 := hR.up n5
              have N5 := hN.trans (n5.mono hN.size)
              have R5 := R5.base (base' := q2 + 1) (by omega)
              generalize wr.alloc (.cells #[] 5) = wf at *
              clear hS hR hN n5
              go_loopw [14, 15] (fun v u wr => ∃ (n : Nat), n ≤ 16 ∧ u = .int .i64 n ∧ RowB wr (q2 + 1) v (oL sw rs n) ∧ Blk wr w1.heap.size .u32 sw ∧ Blk wr q2 .u32 rs ∧ q2 + 1 ≤ wr.heap.size ∧ Below w1.heap.size w1 wr) (fun _ u _ => 16 - (intOf u).toNat)
              case atStart => exact ⟨0, Nat.zero_le _, rfl, R5, S5, T5, by omega, N5⟩
              case round =>
                obtain ⟨n, hn, rfl, hV, hS, hR, hz, hN⟩ := hrel
                clear R5 S5 T5 N5 z5
                by_cases nlt : n < 16
                · have c1 := hS.cell (i := n) (by rw [SWL.out]; exact nlt)
                  have c2 := hR.cell (i := n) (by rw [RL.out]; exact nlt)
                  have n16 : (n : Int) < 16 := by omega
                  have OE : Hid (oL sw rs (n + 1) = oL sw rs n ++ oW ((rs.getD n 0 + sw.getD n 0) % 4294967296)) := rfl
                  have OLn := hide (oL_len sw rs n)
                  generalize sw.getD n 0 = s1 at *
                  generalize rs.getD n 0 = s2 at *
                  go_wp2_with fail
                  go_quiet (fail)
                  obtain ⟨v, hv⟩ : ∃ v, v = (s2 + s1) % 4294967296 := ⟨_, rfl⟩
                  simp only [← hv] at OE ⊢
                  have v0 : 0 ≤ v := by omega
                  have v1 : v < 4294967296 := by omega
                  have hV' : RowB (wr.drewN nq) (q2 + 1) _ (oL sw rs n) := hV
                  have hS' : Blk (wr.drewN nq) w1.heap.size .u32 sw := hS
                  have hR' : Blk (wr.drewN nq) q2 .u32 rs := hR
                  have hN' := below_drewN hN nq
                  have hz' : q2 + 1 ≤ (wr.drewN nq).heap.size := hz
                  clear hv c1 c2 hV hS hR hN hz
                  generalize wr.drewN nq = ws at *
                  have n6 : Below ws.heap.size ws (ws.alloc (.cells #[.int .u8 (v % 256), .int .u8 (v / 256 % 256), .int .u8 (v / 65536 % 256), .int .u8 (v / 16777216)] 5)) := (Below.refl _ _).alloc (Nat.le_refl _) _
                  have B6 : Blk (ws.alloc (.cells #[.int .u8 (v % 256), .int .u8 (v / 256 % 256), .int .u8 (v / 65536 % 256), .int .u8 (v / 16777216)] 5)) ws.heap.size .u8 (oW v) := blk_alloc ws .u8 5 (oW v)
                  have hap := append_any (P := Tryz.prog) (ws.alloc (.cells #[.int .u8 (v % 256), .int .u8 (v / 256 % 256), .int .u8 (v / 65536 % 256), .int .u8 (v / 16777216)] 5)) 22 i0 Tryz.underlying22 hi hz0 hz1 hz2 (q2 + 1) (q2 + 1) _ _ (hV'.up n6) _ _ 4 (oW v) B6.own0.rd (by simp) (by rw [OLn.out]; show _ + 4 ≤ _; omega) (Nat.le_refl _) (Nat.le_trans hz' n6.size)
                  rw [show (oW v).length = 4 from rfl] at hap
                  obtain ⟨v', w7, hap, o7, n7⟩ := hap
                  have S7 := (hS'.up n6).of_block (n7.block w1.heap.size (by omega))
                  have R7 := (hR'.up n6).of_block (n7.block q2 (by omega))
                  have N7 := (hN'.trans (n6.mono hN'.size)).trans (n7.mono (by omega))
                  have z7 := Nat.le_trans (Nat.le_trans hz' n6.size) n7.size
                  rw [← OE.out] at o7
                  clear B6 hV' hS' hR' hN' n6 n7 OE hz'
                  go_wp2_with (at_builtin; refine Lib.wpList_append_run _ rfl _ _ 22 22 rfl _ _ rfl rfl _ _ hap ?_)
                  clear hap
                  go_roundw
                  case rel => exact ⟨n + 1, by omega, by go_num, o7, S7, R7, z7, N7⟩
                  case measure => simp [intOf]; omega
                · have H16 := hide (show n = 16 by omega)
                  have nn : ¬ ((n : Int) < 16) := by omega
                  obtain ⟨a3, c3, g3, rfl, o3, p3, q3, r3⟩ := hV.own
                  go_wp2
                  go_ret
                  rw [OUT.out n H16.out]
                  exact ⟨⟨a3, c3, g3, rfl, o3, p3, q3, by omega⟩, hN⟩
theorem specBlock_any (w : World) (g : Nat) (a : Option Addr) (c : Nat) (key : List Int) (hr : Rd w g a .u8 key) (hb : Byt key) (hc : key.length ≤ c) (ct : Int) (g' : Nat) (a' : Option Addr) (c' : Nat) (non : List Int) (hr' : Rd w g' a' .u8 non) (hb' : Byt non) (hc' : non.length ≤ c') :
    Calls Tryz.prog 61 #[.slice a key.length c, .int .i64 ct, .slice a' non.length c'] w fun e w' => NewRow w.heap.size w' e .u8 (sbA key ct non) ∧ Below w.heap.size w w' := by
  by_cases hf : fitB key ct non = true
  · have h := hf
    unfold fitB at h
    simp only [Bool.and_eq_true, decide_eq_true_eq] at h
    have RS : sbA key ct non = fill (stF ((nsW key non).set 12 ct) (rds 10 ((nsW key non).set 12 ct))) 64 := by unfold sbA; rw [if_pos hf]; unfold strB stB; rfl
    rw [RS]
    exact specBlock_core w g a c key hr hb h.1.1 hc ct h.2.1 (by omega) g' a' c' non hr' hb' h.1.2 hc' hf 10 rfl
  · have RS : Hid (sbA key ct non = []) := by show _ = _; unfold sbA; rw [if_neg hf]
    rw [RS.out]
    have FT := fits_any w a a' c c' key non ct
    rw [show fitB key ct non = false by simpa using hf] at FT
    clear hf RS
    go_enter Tryz.func61, Tryz.ntmps61
    go_wp2_with fail
    refine FT.mono ?_
    rintro e w1 ⟨rfl, rfl⟩
    go_wp2
    go_ret
    exact ⟨newRow_e _ _, (Below.refl _ _).alloc (Nat.le_refl _) _⟩
end Go.Proofs.YtjfggcefdobooaaGreatDoor
namespace Go.Proofs.YtjfggcefdobooaaGreatDoor
set_option maxRecDepth 100000
open Go Go.RowKit
theorem step_append_ex {P : Program} {ops : Array Oper} {o : Oper} {a : Act} {w : World} {K : Act → World → Prop} {Q : Exit → Act → World → Prop} {E : Prop} (hg : o.guard = none) (s x : Operand) (t tn : TypeId)
    (ho : o.op = .call { callee := .builtin .append, args := #[s, x], argTypes := #[t, tn] }) (vs vx : Value) (hs : a.eval s = vs) (hx : a.eval x = vx) (R : Value → World → Prop)
    (H : ∃ v' w', (Builtin.append_ #[t, tn] o.type #[vs, vx]).run P w = .ok v' w' ∧ R v' w') (hK : ∀ v' w', R v' w' → K (a.put o.dst v') w') :
    if Region.wanted o (yielded ops a.tmps) = true then Oper.wp P o a w K Q else E := by
  have hw : Region.wanted o (yielded ops a.tmps) = true := by simp [Region.wanted, hg]
  rw [if_pos hw]
  obtain ⟨v', w', hr, hR⟩ := H
  exact Lib.wp_append_run w s x t tn ho vs vx hs hx v' w' hr (hK v' w' hR)
theorem append_anyH {P : Program} (w : World) (ty : TypeId) (i : TypeInfo) (ht : P.underlying 22 = some (.slice 5)) (hi : P.info? 5 = some i) (hz : i.zero = some (.int .u8 0)) (hsize : i.size = 1) (hby : i.bytes = 1)
    (base : Nat) (v : Value) (xs : List Int) (hown : RowB w base v xs) (g o c : Nat) (us : List Int) (hr : Rd w g (some ⟨g, o, none⟩) .u8 us) (hl : xs.length + us.length ≤ 1099511627776) (hbase : base ≤ w.heap.size) :
    ∃ v' w', (Builtin.append_ #[22, 22] ty #[v, .slice (some ⟨g, o, none⟩) us.length c]).run P w = .ok v' w' ∧ RowB w' base v' (xs ++ us) ∧ w.grownBy w' v.ownBlock ∧ (v'.ownBlock = v.ownBlock ∨ v'.ownBlock = some w.heap.size) := by
  have hcell : ∀ j u, (us.map (Value.int .u8))[j]? = some u → w.cell? ((⟨g, o, none⟩ : Addr).add j) = some u := by
    intro j u hj
    have hjl : j < us.length := by
      have := (List.getElem?_eq_some_iff.1 hj).1
      simpa using this
    obtain ⟨off, ha, hcc⟩ := hr (by omega)
    simp only [Option.some.injEq] at ha
    rw [ha, Addr.add_mid, hcc j hjl]
    simpa [hjl] using hj
  have hone : ∀ u ∈ us.map (Value.int .u8), u.oneCell' = true := by
    intro u hu
    obtain ⟨x, _, rfl⟩ := List.mem_map.1 hu
    rfl
  obtain ⟨v', w', h1, h2, h3, _, h5⟩ := run_append_own_at (P := P) w base 22 ty 5 i (.int .u8 0) 1 1 ht hi hz hsize hby rfl (by decide) v xs.length (xs.map (Value.int .u8)) hown ⟨g, o, none⟩ us.length c (us.map (Value.int .u8)) (by simp) hcell hone (by unfold maxLen; omega) (by omega) hbase
  refine ⟨v', w', h1, ?_, h3, h5⟩
  show w'.ownsRow base 5 1 v' (xs ++ us).length ((xs ++ us).map (Value.int .u8))
  rw [List.length_append, List.map_append]
  exact h2
def sxF (key : List Int) (c : Int) (non data : List Int) (i : Nat) : Int := xr (data.getD i 0) ((strB key (c + ((i / 64 : Nat) : Int)) non).getD (i % 64) 0)
theorem sx_fill (key : List Int) (c : Int) (non data : List Int) : xoG (nsW key non) c data ((data.length + 63) / 64) = fill (sxF key c non data) data.length := by
  refine eq_of_getD (by rw [xoG_len, fill_len]) (fun i hi => ?_)
  rw [xoG_len] at hi
  rw [xoG_get _ _ _ _ hi, if_pos (by omega), fill_get _ _ _ hi]
  rfl
theorem sbA_fit {key : List Int} {c c' : Int} {non : List Int} (h : fitB key c non = true) (h0 : 0 ≤ c') (h1 : c' ≤ 4294967295) : sbA key c' non = strB key c' non := by
  unfold sbA
  rw [if_pos]
  unfold fitB at h ⊢
  simp only [Bool.and_eq_true, decide_eq_true_eq] at h ⊢
  exact ⟨h.1, h0, h1⟩
end Go.Proofs.YtjfggcefdobooaaGreatDoor
