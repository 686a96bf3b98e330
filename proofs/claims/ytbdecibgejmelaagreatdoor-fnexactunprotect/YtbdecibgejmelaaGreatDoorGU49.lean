import Derived.Test.YtbdecibgejmelaaGreatDoorCcB
import Derived.Test.YtbdecibgejmelaaGreatDoorRgV
import Derived.Test.YtbdecibgejmelaaGreatDoorCcF
import Derived.Test.YtbdecibgejmelaaGreatDoorApd
import Derived.Test.YtbdecibgejmelaaGreatDoorGU47
import Derived.Maps.AppendAt
import Derived.Deep.RegionHeld3
import Derived.Test.YtbdecibgejmelaaGreatDoorGU48
import Derived.Test.YtbdecibgejmelaaGreatDoorSpecA
import Derived.Test.YtbdecibgejmelaaGreatDoorHelp
import Derived.Laws.BytesString
import Derived.Deep.MidRow

/-
  The model's turning and quarter (written by gens/spc.py).
-/
namespace Go.Proofs.YtbdecibgejmelaaGreatDoor
set_option maxRecDepth 100000
open Go Go.RowKit

/-- Four places, each another one. -/
structure Ne4 (i j k l : Nat) : Prop where
  ij : i ≠ j
  ik : i ≠ k
  il : i ≠ l
  jk : j ≠ k
  jl : j ≠ l
  kl : k ≠ l
section
variable {ys : List Int} {i j k l n : Nat} (hn : ys.length = n) (ne : Ne4 i j k l) (s : Q4)
theorem set4_i {ys : List Int} {i j k l : Nat} (ne : Ne4 i j k l) (s : Q4) {x : Int} : (put4 ys i j k l s).set i x = put4 ys i j k l ⟨x, s.b, s.c, s.d⟩ := by
  unfold put4
  rw [List.set_comm _ _ (Ne.symm ne.il), List.set_comm _ _ (Ne.symm ne.ik), List.set_comm _ _ (Ne.symm ne.ij), List.set_set]
theorem set4_j {ys : List Int} {i j k l : Nat} (ne : Ne4 i j k l) (s : Q4) {x : Int} : (put4 ys i j k l s).set j x = put4 ys i j k l ⟨s.a, x, s.c, s.d⟩ := by
  unfold put4
  rw [List.set_comm _ _ (Ne.symm ne.jl), List.set_comm _ _ (Ne.symm ne.jk), List.set_set]
theorem set4_k {ys : List Int} {i j k l : Nat} (ne : Ne4 i j k l) (s : Q4) {x : Int} : (put4 ys i j k l s).set k x = put4 ys i j k l ⟨s.a, s.b, x, s.d⟩ := by
  unfold put4
  rw [List.set_comm _ _ (Ne.symm ne.kl), List.set_set]
theorem set4_l {ys : List Int} {i j k l : Nat} (_ : Ne4 i j k l) (s : Q4) {x : Int} : (put4 ys i j k l s).set l x = put4 ys i j k l ⟨s.a, s.b, s.c, x⟩ := by
  unfold put4
  rw [List.set_set]
theorem put4_i {ys : List Int} {i j k l n : Nat} (hn : ys.length = n) (ne : Ne4 i j k l) (s : Q4) (h : i < n) : (put4 ys i j k l s).getD i 0 = s.a := by
  unfold put4
  rw [getD_set_ne _ _ _ _ (Ne.symm ne.il), getD_set_ne _ _ _ _ (Ne.symm ne.ik), getD_set_ne _ _ _ _ (Ne.symm ne.ij), getD_set_self _ _ _ (by rw [hn]; exact h)]
theorem put4_j {ys : List Int} {i j k l n : Nat} (hn : ys.length = n) (ne : Ne4 i j k l) (s : Q4) (h : j < n) : (put4 ys i j k l s).getD j 0 = s.b := by
  unfold put4
  rw [getD_set_ne _ _ _ _ (Ne.symm ne.jl), getD_set_ne _ _ _ _ (Ne.symm ne.jk), getD_set_self _ _ _ (by rw [List.length_set, hn]; exact h)]
theorem put4_k {ys : List Int} {i j k l n : Nat} (hn : ys.length = n) (ne : Ne4 i j k l) (s : Q4) (h : k < n) : (put4 ys i j k l s).getD k 0 = s.c := by
  unfold put4
  rw [getD_set_ne _ _ _ _ (Ne.symm ne.kl), getD_set_self _ _ _ (by rw [List.length_set, List.length_set, hn]; exact h)]
theorem put4_l {ys : List Int} {i j k l n : Nat} (hn : ys.length = n) (_ : Ne4 i j k l) (s : Q4) (h : l < n) : (put4 ys i j k l s).getD l 0 = s.d := by
  unfold put4
  rw [getD_set_self _ _ _ (by rw [List.length_set, List.length_set, List.length_set, hn]; exact h)]
theorem put4_self {ys : List Int} {i j k l : Nat} (ne : Ne4 i j k l) : put4 ys i j k l (get4 ys i j k l) = ys := by
  refine eq_of_getD (put4_len _ _ _ _ _ _) (fun m hm => ?_)
  rw [put4_len] at hm
  by_cases h1 : l = m
  · subst h1; exact put4_l rfl ne _ hm
  by_cases h2 : k = m
  · subst h2; exact put4_k rfl ne _ hm
  by_cases h3 : j = m
  · subst h3; exact put4_j rfl ne _ hm
  by_cases h4 : i = m
  · subst h4; exact put4_i rfl ne _ hm
  unfold put4
  rw [getD_set_ne _ _ _ _ h1, getD_set_ne _ _ _ _ h2, getD_set_ne _ _ _ _ h3, getD_set_ne _ _ _ _ h4]
end
set_option maxHeartbeats 1000000 in
theorem left_any (w : World) (x : Int) (h : W4 x) (n : Nat) (h0 : 0 < n) (h1 : n < 32) : Calls Tryz.prog 139 #[.int .u32 x, .int .u64 (n : Int)] w fun e w' => ∃ v, e = .returned v ∧ Below w.heap.size w w' ∧ v = .int .u32 (lf x n) := by
  obtain ⟨x0, x1⟩ := h
  go_enter Tryz.func139, Tryz.ntmps139
  go_wp2
  go_ret
  exact ⟨_, rfl, Below.refl _ _, rfl⟩
theorem info16 : (Tryz.prog.info? 119).map (·.size) = some 16 := by kernel_rfl
theorem und16 : Tryz.prog.underlying 119 = some (.array 16 118) := by kernel_rfl
set_option maxRecDepth 100000 in
set_option maxHeartbeats 8000000 in
theorem l8Quarter_any (w : World) (ys : List Int) (hw : Ws ys) (hl0 : ys.length = 16) (x1 x2 x3 x4 : Nat) (hi : x1 < 16) (hj : x2 < 16) (hk : x3 < 16) (hll : x4 < 16) (ne : Ne4 x1 x2 x3 x4) :
    Calls Tryz.prog 106 #[ag .u32 ys, .int .i64 (x1 : Int), .int .i64 (x2 : Int), .int .i64 (x3 : Int), .int .i64 (x4 : Int)] w fun e w' => e = .returned (ag .u32 (qrL ys x1 x2 x3 x4)) ∧ Below w.heap.size w w' := by
  have B0 := blk_alloc w .u32 119 ys
  have n0 : Below w.heap.size w (w.alloc (.cells (ys.map (Value.int .u32)).toArray 119)) := (Below.refl _ _).alloc (Nat.le_refl _) _
  have z0 : (w.alloc (.cells (ys.map (Value.int .u32)).toArray 119)).heap.size = w.heap.size + 1 := by simp
  have HL := hide hl0
  have hl := hll
  clear hl0 hll
  have pi : (x1 : Int) < 16 := by omega
  have pj : (x2 : Int) < 16 := by omega
  have pk : (x3 : Int) < 16 := by omega
  have pl : (x4 : Int) < 16 := by omega
  have so := hw.get4 x1 x2 x3 x4
  have so1 := qH_ok so 16 12
  have L1 := fun u => hide (left_any u _ (xor_w4 so.2.2.2 (qA_w (get4 ys x1 x2 x3 x4))) 16 (by decide) (by decide))
  have L2 := fun u => hide (left_any u _ (xor_w4 so.2.1 (qC_w (get4 ys x1 x2 x3 x4) 16)) 12 (by decide) (by decide))
  have L3 := fun u => hide (left_any u _ (xor_w4 so1.2.2.2 (qA_w (qH (get4 ys x1 x2 x3 x4) 16 12))) 8 (by decide) (by decide))
  have L4 := fun u => hide (left_any u _ (xor_w4 so1.2.1 (qC_w (qH (get4 ys x1 x2 x3 x4) 16 12) 8)) 7 (by decide) (by decide))
  have hB : Blk (w.alloc (.cells (ys.map (Value.int .u32)).toArray 119)) w.heap.size .u32 (put4 ys x1 x2 x3 x4 (get4 ys x1 x2 x3 x4)) := by rw [put4_self ne]; exact B0
  have QE : Hid (qrL ys x1 x2 x3 x4 = put4 ys x1 x2 x3 x4 (qr (get4 ys x1 x2 x3 x4))) := rfl
  rw [QE.out]
  clear QE so so1
  obtain ⟨s0, hs0⟩ : ∃ s, s = get4 ys x1 x2 x3 x4 := ⟨_, rfl⟩
  rw [← hs0] at hB ⊢
  simp only [← hs0] at L1 L2 L3 L4
  clear hs0 hw B0
  obtain ⟨A, B, C, D⟩ := s0
  have E0 : Hid (qr ⟨A, B, C, D⟩ = ⟨qA (qH ⟨A, B, C, D⟩ 16 12), qB (qH ⟨A, B, C, D⟩ 16 12) 8 7, qC (qH ⟨A, B, C, D⟩ 16 12) 8, qD (qH ⟨A, B, C, D⟩ 16 12) 8⟩) := rfl
  rw [E0.out]
  clear E0
  have f1 : Hid ((A + B) % 4294967296 = qA ⟨A, B, C, D⟩) := rfl
  have f3 : Hid ((C + qD ⟨A, B, C, D⟩ 16) % 4294967296 = qC ⟨A, B, C, D⟩ 16) := rfl
  have f5 : Hid ((qA ⟨A, B, C, D⟩ + qB ⟨A, B, C, D⟩ 16 12) % 4294967296 = qA (qH ⟨A, B, C, D⟩ 16 12)) := rfl
  have f7 : Hid ((qC ⟨A, B, C, D⟩ 16 + qD (qH ⟨A, B, C, D⟩ 16 12) 8) % 4294967296 = qC (qH ⟨A, B, C, D⟩ 16 12) 8) := rfl
  have L1 : ∀ u, Hid (Calls Tryz.prog 139 #[.int .u32 (bits BinOp.xor IntKind.u32 D (qA ⟨A, B, C, D⟩)), .int .u64 16] u fun e w' => ∃ v, e = .returned v ∧ Below u.heap.size u w' ∧ v = .int .u32 (qD ⟨A, B, C, D⟩ 16)) := L1
  have L2 : ∀ u, Hid (Calls Tryz.prog 139 #[.int .u32 (bits BinOp.xor IntKind.u32 B (qC ⟨A, B, C, D⟩ 16)), .int .u64 12] u fun e w' => ∃ v, e = .returned v ∧ Below u.heap.size u w' ∧ v = .int .u32 (qB ⟨A, B, C, D⟩ 16 12)) := L2
  have L3 : ∀ u, Hid (Calls Tryz.prog 139 #[.int .u32 (bits BinOp.xor IntKind.u32 (qD ⟨A, B, C, D⟩ 16) (qA (qH ⟨A, B, C, D⟩ 16 12))), .int .u64 8] u fun e w' => ∃ v, e = .returned v ∧ Below u.heap.size u w' ∧ v = .int .u32 (qD (qH ⟨A, B, C, D⟩ 16 12) 8)) := L3
  have L4 : ∀ u, Hid (Calls Tryz.prog 139 #[.int .u32 (bits BinOp.xor IntKind.u32 (qB ⟨A, B, C, D⟩ 16 12) (qC (qH ⟨A, B, C, D⟩ 16 12) 8)), .int .u64 7] u fun e w' => ∃ v, e = .returned v ∧ Below u.heap.size u w' ∧ v = .int .u32 (qB (qH ⟨A, B, C, D⟩ 16 12) 8 7)) := L4
  generalize qA (qH ⟨A, B, C, D⟩ 16 12) = A2 at *
  generalize qB (qH ⟨A, B, C, D⟩ 16 12) 8 7 = B2 at *
  generalize qC (qH ⟨A, B, C, D⟩ 16 12) 8 = C2 at *
  generalize qD (qH ⟨A, B, C, D⟩ 16 12) 8 = D2 at *
  generalize qA ⟨A, B, C, D⟩ = A1 at *
  generalize qD ⟨A, B, C, D⟩ 16 = D1 at *
  generalize qC ⟨A, B, C, D⟩ 16 = C1 at *
  generalize qB ⟨A, B, C, D⟩ 16 12 = B1 at *
  have VY : Hid (ag .u32 ys = Value.agg (ys.map (Value.int .u32)).toArray) := rfl
  rw [VY.out]
  obtain ⟨vs0, hvs0⟩ : ∃ vs, vs = ys.map (Value.int .u32) := ⟨_, rfl⟩
  rw [← hvs0] at hB n0 z0 ⊢
  clear hvs0 VY
  go_enter Tryz.func106, Tryz.ntmps106
  go_upto_region 1 with fail
  generalize w.alloc (.cells vs0.toArray 119) = wa at *
  have n1 : Below wa.heap.size wa (wa.alloc (.cells #[.int .u32 0, .int .u32 0, .int .u32 0, .int .u32 0, .int .u32 0, .int .u32 0, .int .u32 0, .int .u32 0, .int .u32 0, .int .u32 0, .int .u32 0, .int .u32 0, .int .u32 0, .int .u32 0, .int .u32 0, .int .u32 0] 119)) := (Below.refl _ _).alloc (Nat.le_refl _) _
  have hZ := blk_z16 wa 119
  generalize wa.alloc (.cells #[.int .u32 0, .int .u32 0, .int .u32 0, .int .u32 0, .int .u32 0, .int .u32 0, .int .u32 0, .int .u32 0, .int .u32 0, .int .u32 0, .int .u32 0, .int .u32 0, .int .u32 0, .int .u32 0, .int .u32 0, .int .u32 0] 119) = wr0 at *
  rw [z0] at hZ
  replace hB := hB.up n1
  have hN := nxt n0 n1
  clear n0 n1 z0
  have cx : ∀ u, Below wr0.heap.size wr0 u → u.cell? ⟨w.heap.size, x1, none⟩ = some (.int .u32 A) := fun u hu => by
    have := (hB.up hu).cell (i := x1) (by rw [put4_len, HL.out]; exact hi)
    rw [put4_i HL.out ne ⟨A, B, C, D⟩ hi] at this
    exact this
  have cy : ∀ u, Below wr0.heap.size wr0 u → u.cell? ⟨w.heap.size, x2, none⟩ = some (.int .u32 B) := fun u hu => by
    have := (hB.up hu).cell (i := x2) (by rw [put4_len, HL.out]; exact hj)
    rw [put4_j HL.out ne ⟨A, B, C, D⟩ hj] at this
    exact this
  go_wp2_with fail
  refine region_store 9 _ (fun i => [Fact.eq (.int .i64 (x1 : Int)), Fact.eq (.int .i64 (x1 : Int)), Fact.eq (.pointer (some ⟨w.heap.size, x1, none⟩)), Fact.eq (.int .u32 A), Fact.eq (.int .i64 (x2 : Int)), Fact.eq (.pointer (some ⟨w.heap.size, x2, none⟩)), Fact.eq (.int .u32 B), Fact.eq (.int .u32 A1), Fact.eq (.pointer (some ⟨w.heap.size, x1, none⟩))].getD i Fact.no) (by kernel_rfl) (by kernel_rfl) rfl rfl ?_ ?_
  · skip
    intro i hi
    obtain rfl | rfl | rfl | rfl | rfl | rfl | rfl | rfl | rfl : i = 0 ∨ i = 1 ∨ i = 2 ∨ i = 3 ∨ i = 4 ∨ i = 5 ∨ i = 6 ∨ i = 7 ∨ i = 8 := by omega
    · refine step_pure rfl fun a u hb hw hf => ?_
      have e1 : a.tmps[1]?.getD undef = .int .i64 (x1 : Int) := gdv (hb.2.2 1 (by kernel_rfl))
      exact ⟨.int .i64 (x1 : Int), by simp [go_sem, e1], rfl⟩
    · refine step_pure rfl fun a u hb hw hf => ?_
      have e1 : a.tmps[1]?.getD undef = .int .i64 (x1 : Int) := gdv (hb.2.2 1 (by kernel_rfl))
      exact ⟨.int .i64 (x1 : Int), by simp [go_sem, e1], rfl⟩
    · refine step_pure rfl fun a u hb hw hf => ?_
      have e5 : a.tmps[5]?.getD undef = .pointer (some ⟨w.heap.size, 0, none⟩) := gdv (hb.2.2 5 (by kernel_rfl))
      have e12 : a.tmps[12]?.getD undef = .int .i64 (x1 : Int) := gdv (hf 1 12 (by kernel_rfl))
      exact ⟨.pointer (some ⟨w.heap.size, x1, none⟩), by simp [go_sem, e5, e12, pi], rfl⟩
    · refine step_pure rfl fun a u hb hw hf => ?_
      have e13 : a.tmps[13]?.getD undef = .pointer (some ⟨w.heap.size, x1, none⟩) := gdv (hf 2 13 (by kernel_rfl))
      have hc := cx _ hw
      exact ⟨.int .u32 A, by simp [go_sem, e13, hc], rfl⟩
    · refine step_pure rfl fun a u hb hw hf => ?_
      have e2 : a.tmps[2]?.getD undef = .int .i64 (x2 : Int) := gdv (hb.2.2 2 (by kernel_rfl))
      exact ⟨.int .i64 (x2 : Int), by simp [go_sem, e2], rfl⟩
    · refine step_pure rfl fun a u hb hw hf => ?_
      have e5 : a.tmps[5]?.getD undef = .pointer (some ⟨w.heap.size, 0, none⟩) := gdv (hb.2.2 5 (by kernel_rfl))
      have e15 : a.tmps[15]?.getD undef = .int .i64 (x2 : Int) := gdv (hf 4 15 (by kernel_rfl))
      exact ⟨.pointer (some ⟨w.heap.size, x2, none⟩), by simp [go_sem, e5, e15, pj], rfl⟩
    · refine step_pure rfl fun a u hb hw hf => ?_
      have e16 : a.tmps[16]?.getD undef = .pointer (some ⟨w.heap.size, x2, none⟩) := gdv (hf 5 16 (by kernel_rfl))
      have hc := cy _ hw
      exact ⟨.int .u32 B, by simp [go_sem, e16, hc], rfl⟩
    · refine step_pure rfl fun a u hb hw hf => ?_
      have e14 : a.tmps[14]?.getD undef = .int .u32 A := gdv (hf 3 14 (by kernel_rfl))
      have e17 : a.tmps[17]?.getD undef = .int .u32 B := gdv (hf 6 17 (by kernel_rfl))
      exact ⟨.int .u32 A1, by simp [go_sem, e14, e17, IntKind.wrap_u32', f1.out], rfl⟩
    · refine step_pure rfl fun a u hb hw hf => ?_
      have e5 : a.tmps[5]?.getD undef = .pointer (some ⟨w.heap.size, 0, none⟩) := gdv (hb.2.2 5 (by kernel_rfl))
      have e11 : a.tmps[11]?.getD undef = .int .i64 (x1 : Int) := gdv (hf 0 11 (by kernel_rfl))
      exact ⟨.pointer (some ⟨w.heap.size, x1, none⟩), by simp [go_sem, e5, e11, pi], rfl⟩
  intro a u hb hw hf
  have ep : a.tmps[19]?.getD undef = .pointer (some ⟨w.heap.size, x1, none⟩) := gdv (hf 8 19 (by kernel_rfl))
  have ev : a.tmps[18]?.getD undef = .int .u32 A1 := gdv (hf 7 18 (by kernel_rfl))
  have hcc := cx u hw
  have hff := (hB.up hw).free x1
  have hB' := (hB.up hw).store x1 A1
  rw [set4_i ne ⟨A, B, C, D⟩] at hB'
  have O2 := Only.setCell u w.heap.size x1 (.int .u32 A1)
  have hZ' := (hZ.up hw).of_block (O2.block (w.heap.size + 1) (by omega))
  have hN' := hN.trans ((hw.mono hN.size).trans (O2.below (Nat.le_refl _)))
  obtain ⟨vs, hvs⟩ : ∃ vs : Nat → Value, ∀ d, a.tmps.getD d undef = vs d := ⟨_, fun _ => rfl⟩
  have ea := puts_of (md := .any) (n := 88) (k := 9) (by kernel_rfl) rfl hb vs hvs
  unfold Oper.wp
  simp [go_sem, ep, ev, hcc, hff]
  rw [ea]
  clear ea hvs ep ev hf hb hcc hff cx cy hB hZ hN hw
  simp only [puts, Act.put, List.setIfInBounds_toArray, List.set_cons_succ, List.set_cons_zero]
  generalize u.setCell ⟨w.heap.size, x1, none⟩ (.int .u32 A1) = wr1 at *
  have hB := hB'
  have hZ := hZ'
  have hN := hN'
  clear O2 hB' hZ' hN'
  have cx : ∀ u, Below wr1.heap.size wr1 u → u.cell? ⟨w.heap.size, x4, none⟩ = some (.int .u32 D) := fun u hu => by
    have := (hB.up hu).cell (i := x4) (by rw [put4_len, HL.out]; exact hl)
    rw [put4_l HL.out ne ⟨A1, B, C, D⟩ hl] at this
    exact this
  have cy : ∀ u, Below wr1.heap.size wr1 u → u.cell? ⟨w.heap.size, x1, none⟩ = some (.int .u32 A1) := fun u hu => by
    have := (hB.up hu).cell (i := x1) (by rw [put4_len, HL.out]; exact hi)
    rw [put4_i HL.out ne ⟨A1, B, C, D⟩ hi] at this
    exact this
  go_wp2_with fail
  refine region_store 10 _ (fun i => [Fact.eq (.int .i64 (x4 : Int)), Fact.eq (.int .i64 (x4 : Int)), Fact.eq (.pointer (some ⟨w.heap.size, x4, none⟩)), Fact.eq (.int .u32 D), Fact.eq (.int .i64 (x1 : Int)), Fact.eq (.pointer (some ⟨w.heap.size, x1, none⟩)), Fact.eq (.int .u32 A1), Fact.eq (.int .u32 (bits BinOp.xor IntKind.u32 D A1)), Fact.eq (.int .u32 D1), Fact.eq (.pointer (some ⟨w.heap.size, x4, none⟩))].getD i Fact.no) (by kernel_rfl) (by kernel_rfl) rfl rfl ?_ ?_
  · skip
    intro i hi
    obtain rfl | rfl | rfl | rfl | rfl | rfl | rfl | rfl | rfl | rfl : i = 0 ∨ i = 1 ∨ i = 2 ∨ i = 3 ∨ i = 4 ∨ i = 5 ∨ i = 6 ∨ i = 7 ∨ i = 8 ∨ i = 9 := by omega
    · refine step_pure rfl fun a u hb hw hf => ?_
      have e4 : a.tmps[4]?.getD undef = .int .i64 (x4 : Int) := gdv (hb.2.2 4 (by kernel_rfl))
      exact ⟨.int .i64 (x4 : Int), by simp [go_sem, e4], rfl⟩
    · refine step_pure rfl fun a u hb hw hf => ?_
      have e4 : a.tmps[4]?.getD undef = .int .i64 (x4 : Int) := gdv (hb.2.2 4 (by kernel_rfl))
      exact ⟨.int .i64 (x4 : Int), by simp [go_sem, e4], rfl⟩
    · refine step_pure rfl fun a u hb hw hf => ?_
      have e5 : a.tmps[5]?.getD undef = .pointer (some ⟨w.heap.size, 0, none⟩) := gdv (hb.2.2 5 (by kernel_rfl))
      have e21 : a.tmps[21]?.getD undef = .int .i64 (x4 : Int) := gdv (hf 1 21 (by kernel_rfl))
      exact ⟨.pointer (some ⟨w.heap.size, x4, none⟩), by simp [go_sem, e5, e21, pl], rfl⟩
    · refine step_pure rfl fun a u hb hw hf => ?_
      have e22 : a.tmps[22]?.getD undef = .pointer (some ⟨w.heap.size, x4, none⟩) := gdv (hf 2 22 (by kernel_rfl))
      have hc := cx _ hw
      exact ⟨.int .u32 D, by simp [go_sem, e22, hc], rfl⟩
    · refine step_pure rfl fun a u hb hw hf => ?_
      have e1 : a.tmps[1]?.getD undef = .int .i64 (x1 : Int) := gdv (hb.2.2 1 (by kernel_rfl))
      exact ⟨.int .i64 (x1 : Int), by simp [go_sem, e1], rfl⟩
    · refine step_pure rfl fun a u hb hw hf => ?_
      have e5 : a.tmps[5]?.getD undef = .pointer (some ⟨w.heap.size, 0, none⟩) := gdv (hb.2.2 5 (by kernel_rfl))
      have e24 : a.tmps[24]?.getD undef = .int .i64 (x1 : Int) := gdv (hf 4 24 (by kernel_rfl))
      exact ⟨.pointer (some ⟨w.heap.size, x1, none⟩), by simp [go_sem, e5, e24, pi], rfl⟩
    · refine step_pure rfl fun a u hb hw hf => ?_
      have e25 : a.tmps[25]?.getD undef = .pointer (some ⟨w.heap.size, x1, none⟩) := gdv (hf 5 25 (by kernel_rfl))
      have hc := cy _ hw
      exact ⟨.int .u32 A1, by simp [go_sem, e25, hc], rfl⟩
    · refine step_pure rfl fun a u hb hw hf => ?_
      have e23 : a.tmps[23]?.getD undef = .int .u32 D := gdv (hf 3 23 (by kernel_rfl))
      have e26 : a.tmps[26]?.getD undef = .int .u32 A1 := gdv (hf 6 26 (by kernel_rfl))
      exact ⟨.int .u32 (bits BinOp.xor IntKind.u32 D A1), by simp [go_sem, e23, e26], rfl⟩
    · refine step_callv rfl 139 _ _ rfl (by kernel_rfl) fun a u hb hw hf => ?_
      have e27 : a.tmps.getD 27 undef = .int .u32 (bits BinOp.xor IntKind.u32 D A1) := hf 7 27 (by kernel_rfl)
      show Calls Tryz.prog 139 #[a.tmps.getD 27 undef, .int .u64 16] u _
      rw [e27]
      exact (L1 u).out
    · refine step_pure rfl fun a u hb hw hf => ?_
      have e5 : a.tmps[5]?.getD undef = .pointer (some ⟨w.heap.size, 0, none⟩) := gdv (hb.2.2 5 (by kernel_rfl))
      have e20 : a.tmps[20]?.getD undef = .int .i64 (x4 : Int) := gdv (hf 0 20 (by kernel_rfl))
      exact ⟨.pointer (some ⟨w.heap.size, x4, none⟩), by simp [go_sem, e5, e20, pl], rfl⟩
  intro a u hb hw hf
  have ep : a.tmps[29]?.getD undef = .pointer (some ⟨w.heap.size, x4, none⟩) := gdv (hf 9 29 (by kernel_rfl))
  have ev : a.tmps[28]?.getD undef = .int .u32 D1 := gdv (hf 8 28 (by kernel_rfl))
  have hcc := cx u hw
  have hff := (hB.up hw).free x4
  have hB' := (hB.up hw).store x4 D1
  rw [set4_l ne ⟨A1, B, C, D⟩] at hB'
  have O2 := Only.setCell u w.heap.size x4 (.int .u32 D1)
  have hZ' := (hZ.up hw).of_block (O2.block (w.heap.size + 1) (by omega))
  have hN' := hN.trans ((hw.mono hN.size).trans (O2.below (Nat.le_refl _)))
  obtain ⟨vs, hvs⟩ : ∃ vs : Nat → Value, ∀ d, a.tmps.getD d undef = vs d := ⟨_, fun _ => rfl⟩
  have ea := puts_of (md := .any) (n := 88) (k := 10) (by kernel_rfl) rfl hb vs hvs
  unfold Oper.wp
  simp [go_sem, ep, ev, hcc, hff]
  rw [ea]
  clear ea hvs ep ev hf hb hcc hff cx cy hB hZ hN hw
  simp only [puts, Act.put, List.setIfInBounds_toArray, List.set_cons_succ, List.set_cons_zero]
  generalize u.setCell ⟨w.heap.size, x4, none⟩ (.int .u32 D1) = wr2 at *
  have hB := hB'
  have hZ := hZ'
  have hN := hN'
  clear O2 hB' hZ' hN'
  have cx : ∀ u, Below wr2.heap.size wr2 u → u.cell? ⟨w.heap.size, x3, none⟩ = some (.int .u32 C) := fun u hu => by
    have := (hB.up hu).cell (i := x3) (by rw [put4_len, HL.out]; exact hk)
    rw [put4_k HL.out ne ⟨A1, B, C, D1⟩ hk] at this
    exact this
  have cy : ∀ u, Below wr2.heap.size wr2 u → u.cell? ⟨w.heap.size, x4, none⟩ = some (.int .u32 D1) := fun u hu => by
    have := (hB.up hu).cell (i := x4) (by rw [put4_len, HL.out]; exact hl)
    rw [put4_l HL.out ne ⟨A1, B, C, D1⟩ hl] at this
    exact this
  go_wp2_with fail
  refine region_store 9 _ (fun i => [Fact.eq (.int .i64 (x3 : Int)), Fact.eq (.int .i64 (x3 : Int)), Fact.eq (.pointer (some ⟨w.heap.size, x3, none⟩)), Fact.eq (.int .u32 C), Fact.eq (.int .i64 (x4 : Int)), Fact.eq (.pointer (some ⟨w.heap.size, x4, none⟩)), Fact.eq (.int .u32 D1), Fact.eq (.int .u32 C1), Fact.eq (.pointer (some ⟨w.heap.size, x3, none⟩))].getD i Fact.no) (by kernel_rfl) (by kernel_rfl) rfl rfl ?_ ?_
  · skip
    intro i hi
    obtain rfl | rfl | rfl | rfl | rfl | rfl | rfl | rfl | rfl : i = 0 ∨ i = 1 ∨ i = 2 ∨ i = 3 ∨ i = 4 ∨ i = 5 ∨ i = 6 ∨ i = 7 ∨ i = 8 := by omega
    · refine step_pure rfl fun a u hb hw hf => ?_
      have e3 : a.tmps[3]?.getD undef = .int .i64 (x3 : Int) := gdv (hb.2.2 3 (by kernel_rfl))
      exact ⟨.int .i64 (x3 : Int), by simp [go_sem, e3], rfl⟩
    · refine step_pure rfl fun a u hb hw hf => ?_
      have e3 : a.tmps[3]?.getD undef = .int .i64 (x3 : Int) := gdv (hb.2.2 3 (by kernel_rfl))
      exact ⟨.int .i64 (x3 : Int), by simp [go_sem, e3], rfl⟩
    · refine step_pure rfl fun a u hb hw hf => ?_
      have e5 : a.tmps[5]?.getD undef = .pointer (some ⟨w.heap.size, 0, none⟩) := gdv (hb.2.2 5 (by kernel_rfl))
      have e31 : a.tmps[31]?.getD undef = .int .i64 (x3 : Int) := gdv (hf 1 31 (by kernel_rfl))
      exact ⟨.pointer (some ⟨w.heap.size, x3, none⟩), by simp [go_sem, e5, e31, pk], rfl⟩
    · refine step_pure rfl fun a u hb hw hf => ?_
      have e32 : a.tmps[32]?.getD undef = .pointer (some ⟨w.heap.size, x3, none⟩) := gdv (hf 2 32 (by kernel_rfl))
      have hc := cx _ hw
      exact ⟨.int .u32 C, by simp [go_sem, e32, hc], rfl⟩
    · refine step_pure rfl fun a u hb hw hf => ?_
      have e4 : a.tmps[4]?.getD undef = .int .i64 (x4 : Int) := gdv (hb.2.2 4 (by kernel_rfl))
      exact ⟨.int .i64 (x4 : Int), by simp [go_sem, e4], rfl⟩
    · refine step_pure rfl fun a u hb hw hf => ?_
      have e5 : a.tmps[5]?.getD undef = .pointer (some ⟨w.heap.size, 0, none⟩) := gdv (hb.2.2 5 (by kernel_rfl))
      have e34 : a.tmps[34]?.getD undef = .int .i64 (x4 : Int) := gdv (hf 4 34 (by kernel_rfl))
      exact ⟨.pointer (some ⟨w.heap.size, x4, none⟩), by simp [go_sem, e5, e34, pl], rfl⟩
    · refine step_pure rfl fun a u hb hw hf => ?_
      have e35 : a.tmps[35]?.getD undef = .pointer (some ⟨w.heap.size, x4, none⟩) := gdv (hf 5 35 (by kernel_rfl))
      have hc := cy _ hw
      exact ⟨.int .u32 D1, by simp [go_sem, e35, hc], rfl⟩
    · refine step_pure rfl fun a u hb hw hf => ?_
      have e33 : a.tmps[33]?.getD undef = .int .u32 C := gdv (hf 3 33 (by kernel_rfl))
      have e36 : a.tmps[36]?.getD undef = .int .u32 D1 := gdv (hf 6 36 (by kernel_rfl))
      exact ⟨.int .u32 C1, by simp [go_sem, e33, e36, IntKind.wrap_u32', f3.out], rfl⟩
    · refine step_pure rfl fun a u hb hw hf => ?_
      have e5 : a.tmps[5]?.getD undef = .pointer (some ⟨w.heap.size, 0, none⟩) := gdv (hb.2.2 5 (by kernel_rfl))
      have e30 : a.tmps[30]?.getD undef = .int .i64 (x3 : Int) := gdv (hf 0 30 (by kernel_rfl))
      exact ⟨.pointer (some ⟨w.heap.size, x3, none⟩), by simp [go_sem, e5, e30, pk], rfl⟩
  intro a u hb hw hf
  have ep : a.tmps[38]?.getD undef = .pointer (some ⟨w.heap.size, x3, none⟩) := gdv (hf 8 38 (by kernel_rfl))
  have ev : a.tmps[37]?.getD undef = .int .u32 C1 := gdv (hf 7 37 (by kernel_rfl))
  have hcc := cx u hw
  have hff := (hB.up hw).free x3
  have hB' := (hB.up hw).store x3 C1
  rw [set4_k ne ⟨A1, B, C, D1⟩] at hB'
  have O2 := Only.setCell u w.heap.size x3 (.int .u32 C1)
  have hZ' := (hZ.up hw).of_block (O2.block (w.heap.size + 1) (by omega))
  have hN' := hN.trans ((hw.mono hN.size).trans (O2.below (Nat.le_refl _)))
  obtain ⟨vs, hvs⟩ : ∃ vs : Nat → Value, ∀ d, a.tmps.getD d undef = vs d := ⟨_, fun _ => rfl⟩
  have ea := puts_of (md := .any) (n := 88) (k := 9) (by kernel_rfl) rfl hb vs hvs
  unfold Oper.wp
  simp [go_sem, ep, ev, hcc, hff]
  rw [ea]
  clear ea hvs ep ev hf hb hcc hff cx cy hB hZ hN hw
  simp only [puts, Act.put, List.setIfInBounds_toArray, List.set_cons_succ, List.set_cons_zero]
  generalize u.setCell ⟨w.heap.size, x3, none⟩ (.int .u32 C1) = wr3 at *
  have hB := hB'
  have hZ := hZ'
  have hN := hN'
  clear O2 hB' hZ' hN'
  have cx : ∀ u, Below wr3.heap.size wr3 u → u.cell? ⟨w.heap.size, x2, none⟩ = some (.int .u32 B) := fun u hu => by
    have := (hB.up hu).cell (i := x2) (by rw [put4_len, HL.out]; exact hj)
    rw [put4_j HL.out ne ⟨A1, B, C1, D1⟩ hj] at this
    exact this
  have cy : ∀ u, Below wr3.heap.size wr3 u → u.cell? ⟨w.heap.size, x3, none⟩ = some (.int .u32 C1) := fun u hu => by
    have := (hB.up hu).cell (i := x3) (by rw [put4_len, HL.out]; exact hk)
    rw [put4_k HL.out ne ⟨A1, B, C1, D1⟩ hk] at this
    exact this
  go_wp2_with fail
  refine region_store 10 _ (fun i => [Fact.eq (.int .i64 (x2 : Int)), Fact.eq (.int .i64 (x2 : Int)), Fact.eq (.pointer (some ⟨w.heap.size, x2, none⟩)), Fact.eq (.int .u32 B), Fact.eq (.int .i64 (x3 : Int)), Fact.eq (.pointer (some ⟨w.heap.size, x3, none⟩)), Fact.eq (.int .u32 C1), Fact.eq (.int .u32 (bits BinOp.xor IntKind.u32 B C1)), Fact.eq (.int .u32 B1), Fact.eq (.pointer (some ⟨w.heap.size, x2, none⟩))].getD i Fact.no) (by kernel_rfl) (by kernel_rfl) rfl rfl ?_ ?_
  · skip
    intro i hi
    obtain rfl | rfl | rfl | rfl | rfl | rfl | rfl | rfl | rfl | rfl : i = 0 ∨ i = 1 ∨ i = 2 ∨ i = 3 ∨ i = 4 ∨ i = 5 ∨ i = 6 ∨ i = 7 ∨ i = 8 ∨ i = 9 := by omega
    · refine step_pure rfl fun a u hb hw hf => ?_
      have e2 : a.tmps[2]?.getD undef = .int .i64 (x2 : Int) := gdv (hb.2.2 2 (by kernel_rfl))
      exact ⟨.int .i64 (x2 : Int), by simp [go_sem, e2], rfl⟩
    · refine step_pure rfl fun a u hb hw hf => ?_
      have e2 : a.tmps[2]?.getD undef = .int .i64 (x2 : Int) := gdv (hb.2.2 2 (by kernel_rfl))
      exact ⟨.int .i64 (x2 : Int), by simp [go_sem, e2], rfl⟩
    · refine step_pure rfl fun a u hb hw hf => ?_
      have e5 : a.tmps[5]?.getD undef = .pointer (some ⟨w.heap.size, 0, none⟩) := gdv (hb.2.2 5 (by kernel_rfl))
      have e40 : a.tmps[40]?.getD undef = .int .i64 (x2 : Int) := gdv (hf 1 40 (by kernel_rfl))
      exact ⟨.pointer (some ⟨w.heap.size, x2, none⟩), by simp [go_sem, e5, e40, pj], rfl⟩
    · refine step_pure rfl fun a u hb hw hf => ?_
      have e41 : a.tmps[41]?.getD undef = .pointer (some ⟨w.heap.size, x2, none⟩) := gdv (hf 2 41 (by kernel_rfl))
      have hc := cx _ hw
      exact ⟨.int .u32 B, by simp [go_sem, e41, hc], rfl⟩
    · refine step_pure rfl fun a u hb hw hf => ?_
      have e3 : a.tmps[3]?.getD undef = .int .i64 (x3 : Int) := gdv (hb.2.2 3 (by kernel_rfl))
      exact ⟨.int .i64 (x3 : Int), by simp [go_sem, e3], rfl⟩
    · refine step_pure rfl fun a u hb hw hf => ?_
      have e5 : a.tmps[5]?.getD undef = .pointer (some ⟨w.heap.size, 0, none⟩) := gdv (hb.2.2 5 (by kernel_rfl))
      have e43 : a.tmps[43]?.getD undef = .int .i64 (x3 : Int) := gdv (hf 4 43 (by kernel_rfl))
      exact ⟨.pointer (some ⟨w.heap.size, x3, none⟩), by simp [go_sem, e5, e43, pk], rfl⟩
    · refine step_pure rfl fun a u hb hw hf => ?_
      have e44 : a.tmps[44]?.getD undef = .pointer (some ⟨w.heap.size, x3, none⟩) := gdv (hf 5 44 (by kernel_rfl))
      have hc := cy _ hw
      exact ⟨.int .u32 C1, by simp [go_sem, e44, hc], rfl⟩
    · refine step_pure rfl fun a u hb hw hf => ?_
      have e42 : a.tmps[42]?.getD undef = .int .u32 B := gdv (hf 3 42 (by kernel_rfl))
      have e45 : a.tmps[45]?.getD undef = .int .u32 C1 := gdv (hf 6 45 (by kernel_rfl))
      exact ⟨.int .u32 (bits BinOp.xor IntKind.u32 B C1), by simp [go_sem, e42, e45], rfl⟩
    · refine step_callv rfl 139 _ _ rfl (by kernel_rfl) fun a u hb hw hf => ?_
      have e46 : a.tmps.getD 46 undef = .int .u32 (bits BinOp.xor IntKind.u32 B C1) := hf 7 46 (by kernel_rfl)
      show Calls Tryz.prog 139 #[a.tmps.getD 46 undef, .int .u64 12] u _
      rw [e46]
      exact (L2 u).out
    · refine step_pure rfl fun a u hb hw hf => ?_
      have e5 : a.tmps[5]?.getD undef = .pointer (some ⟨w.heap.size, 0, none⟩) := gdv (hb.2.2 5 (by kernel_rfl))
      have e39 : a.tmps[39]?.getD undef = .int .i64 (x2 : Int) := gdv (hf 0 39 (by kernel_rfl))
      exact ⟨.pointer (some ⟨w.heap.size, x2, none⟩), by simp [go_sem, e5, e39, pj], rfl⟩
  intro a u hb hw hf
  have ep : a.tmps[48]?.getD undef = .pointer (some ⟨w.heap.size, x2, none⟩) := gdv (hf 9 48 (by kernel_rfl))
  have ev : a.tmps[47]?.getD undef = .int .u32 B1 := gdv (hf 8 47 (by kernel_rfl))
  have hcc := cx u hw
  have hff := (hB.up hw).free x2
  have hB' := (hB.up hw).store x2 B1
  rw [set4_j ne ⟨A1, B, C1, D1⟩] at hB'
  have O2 := Only.setCell u w.heap.size x2 (.int .u32 B1)
  have hZ' := (hZ.up hw).of_block (O2.block (w.heap.size + 1) (by omega))
  have hN' := hN.trans ((hw.mono hN.size).trans (O2.below (Nat.le_refl _)))
  obtain ⟨vs, hvs⟩ : ∃ vs : Nat → Value, ∀ d, a.tmps.getD d undef = vs d := ⟨_, fun _ => rfl⟩
  have ea := puts_of (md := .any) (n := 88) (k := 10) (by kernel_rfl) rfl hb vs hvs
  unfold Oper.wp
  simp [go_sem, ep, ev, hcc, hff]
  rw [ea]
  clear ea hvs ep ev hf hb hcc hff cx cy hB hZ hN hw
  simp only [puts, Act.put, List.setIfInBounds_toArray, List.set_cons_succ, List.set_cons_zero]
  generalize u.setCell ⟨w.heap.size, x2, none⟩ (.int .u32 B1) = wr4 at *
  have hB := hB'
  have hZ := hZ'
  have hN := hN'
  clear O2 hB' hZ' hN'
  have cx : ∀ u, Below wr4.heap.size wr4 u → u.cell? ⟨w.heap.size, x1, none⟩ = some (.int .u32 A1) := fun u hu => by
    have := (hB.up hu).cell (i := x1) (by rw [put4_len, HL.out]; exact hi)
    rw [put4_i HL.out ne ⟨A1, B1, C1, D1⟩ hi] at this
    exact this
  have cy : ∀ u, Below wr4.heap.size wr4 u → u.cell? ⟨w.heap.size, x2, none⟩ = some (.int .u32 B1) := fun u hu => by
    have := (hB.up hu).cell (i := x2) (by rw [put4_len, HL.out]; exact hj)
    rw [put4_j HL.out ne ⟨A1, B1, C1, D1⟩ hj] at this
    exact this
  go_wp2_with fail
  refine region_store 9 _ (fun i => [Fact.eq (.int .i64 (x1 : Int)), Fact.eq (.int .i64 (x1 : Int)), Fact.eq (.pointer (some ⟨w.heap.size, x1, none⟩)), Fact.eq (.int .u32 A1), Fact.eq (.int .i64 (x2 : Int)), Fact.eq (.pointer (some ⟨w.heap.size, x2, none⟩)), Fact.eq (.int .u32 B1), Fact.eq (.int .u32 A2), Fact.eq (.pointer (some ⟨w.heap.size, x1, none⟩))].getD i Fact.no) (by kernel_rfl) (by kernel_rfl) rfl rfl ?_ ?_
  · skip
    intro i hi
    obtain rfl | rfl | rfl | rfl | rfl | rfl | rfl | rfl | rfl : i = 0 ∨ i = 1 ∨ i = 2 ∨ i = 3 ∨ i = 4 ∨ i = 5 ∨ i = 6 ∨ i = 7 ∨ i = 8 := by omega
    · refine step_pure rfl fun a u hb hw hf => ?_
      have e1 : a.tmps[1]?.getD undef = .int .i64 (x1 : Int) := gdv (hb.2.2 1 (by kernel_rfl))
      exact ⟨.int .i64 (x1 : Int), by simp [go_sem, e1], rfl⟩
    · refine step_pure rfl fun a u hb hw hf => ?_
      have e1 : a.tmps[1]?.getD undef = .int .i64 (x1 : Int) := gdv (hb.2.2 1 (by kernel_rfl))
      exact ⟨.int .i64 (x1 : Int), by simp [go_sem, e1], rfl⟩
    · refine step_pure rfl fun a u hb hw hf => ?_
      have e5 : a.tmps[5]?.getD undef = .pointer (some ⟨w.heap.size, 0, none⟩) := gdv (hb.2.2 5 (by kernel_rfl))
      have e50 : a.tmps[50]?.getD undef = .int .i64 (x1 : Int) := gdv (hf 1 50 (by kernel_rfl))
      exact ⟨.pointer (some ⟨w.heap.size, x1, none⟩), by simp [go_sem, e5, e50, pi], rfl⟩
    · refine step_pure rfl fun a u hb hw hf => ?_
      have e51 : a.tmps[51]?.getD undef = .pointer (some ⟨w.heap.size, x1, none⟩) := gdv (hf 2 51 (by kernel_rfl))
      have hc := cx _ hw
      exact ⟨.int .u32 A1, by simp [go_sem, e51, hc], rfl⟩
    · refine step_pure rfl fun a u hb hw hf => ?_
      have e2 : a.tmps[2]?.getD undef = .int .i64 (x2 : Int) := gdv (hb.2.2 2 (by kernel_rfl))
      exact ⟨.int .i64 (x2 : Int), by simp [go_sem, e2], rfl⟩
    · refine step_pure rfl fun a u hb hw hf => ?_
      have e5 : a.tmps[5]?.getD undef = .pointer (some ⟨w.heap.size, 0, none⟩) := gdv (hb.2.2 5 (by kernel_rfl))
      have e53 : a.tmps[53]?.getD undef = .int .i64 (x2 : Int) := gdv (hf 4 53 (by kernel_rfl))
      exact ⟨.pointer (some ⟨w.heap.size, x2, none⟩), by simp [go_sem, e5, e53, pj], rfl⟩
    · refine step_pure rfl fun a u hb hw hf => ?_
      have e54 : a.tmps[54]?.getD undef = .pointer (some ⟨w.heap.size, x2, none⟩) := gdv (hf 5 54 (by kernel_rfl))
      have hc := cy _ hw
      exact ⟨.int .u32 B1, by simp [go_sem, e54, hc], rfl⟩
    · refine step_pure rfl fun a u hb hw hf => ?_
      have e52 : a.tmps[52]?.getD undef = .int .u32 A1 := gdv (hf 3 52 (by kernel_rfl))
      have e55 : a.tmps[55]?.getD undef = .int .u32 B1 := gdv (hf 6 55 (by kernel_rfl))
      exact ⟨.int .u32 A2, by simp [go_sem, e52, e55, IntKind.wrap_u32', f5.out], rfl⟩
    · refine step_pure rfl fun a u hb hw hf => ?_
      have e5 : a.tmps[5]?.getD undef = .pointer (some ⟨w.heap.size, 0, none⟩) := gdv (hb.2.2 5 (by kernel_rfl))
      have e49 : a.tmps[49]?.getD undef = .int .i64 (x1 : Int) := gdv (hf 0 49 (by kernel_rfl))
      exact ⟨.pointer (some ⟨w.heap.size, x1, none⟩), by simp [go_sem, e5, e49, pi], rfl⟩
  intro a u hb hw hf
  have ep : a.tmps[57]?.getD undef = .pointer (some ⟨w.heap.size, x1, none⟩) := gdv (hf 8 57 (by kernel_rfl))
  have ev : a.tmps[56]?.getD undef = .int .u32 A2 := gdv (hf 7 56 (by kernel_rfl))
  have hcc := cx u hw
  have hff := (hB.up hw).free x1
  have hB' := (hB.up hw).store x1 A2
  rw [set4_i ne ⟨A1, B1, C1, D1⟩] at hB'
  have O2 := Only.setCell u w.heap.size x1 (.int .u32 A2)
  have hZ' := (hZ.up hw).of_block (O2.block (w.heap.size + 1) (by omega))
  have hN' := hN.trans ((hw.mono hN.size).trans (O2.below (Nat.le_refl _)))
  obtain ⟨vs, hvs⟩ : ∃ vs : Nat → Value, ∀ d, a.tmps.getD d undef = vs d := ⟨_, fun _ => rfl⟩
  have ea := puts_of (md := .any) (n := 88) (k := 9) (by kernel_rfl) rfl hb vs hvs
  unfold Oper.wp
  simp [go_sem, ep, ev, hcc, hff]
  rw [ea]
  clear ea hvs ep ev hf hb hcc hff cx cy hB hZ hN hw
  simp only [puts, Act.put, List.setIfInBounds_toArray, List.set_cons_succ, List.set_cons_zero]
  generalize u.setCell ⟨w.heap.size, x1, none⟩ (.int .u32 A2) = wr5 at *
  have hB := hB'
  have hZ := hZ'
  have hN := hN'
  clear O2 hB' hZ' hN'
  have cx : ∀ u, Below wr5.heap.size wr5 u → u.cell? ⟨w.heap.size, x4, none⟩ = some (.int .u32 D1) := fun u hu => by
    have := (hB.up hu).cell (i := x4) (by rw [put4_len, HL.out]; exact hl)
    rw [put4_l HL.out ne ⟨A2, B1, C1, D1⟩ hl] at this
    exact this
  have cy : ∀ u, Below wr5.heap.size wr5 u → u.cell? ⟨w.heap.size, x1, none⟩ = some (.int .u32 A2) := fun u hu => by
    have := (hB.up hu).cell (i := x1) (by rw [put4_len, HL.out]; exact hi)
    rw [put4_i HL.out ne ⟨A2, B1, C1, D1⟩ hi] at this
    exact this
  go_wp2_with fail
  refine region_store 10 _ (fun i => [Fact.eq (.int .i64 (x4 : Int)), Fact.eq (.int .i64 (x4 : Int)), Fact.eq (.pointer (some ⟨w.heap.size, x4, none⟩)), Fact.eq (.int .u32 D1), Fact.eq (.int .i64 (x1 : Int)), Fact.eq (.pointer (some ⟨w.heap.size, x1, none⟩)), Fact.eq (.int .u32 A2), Fact.eq (.int .u32 (bits BinOp.xor IntKind.u32 D1 A2)), Fact.eq (.int .u32 D2), Fact.eq (.pointer (some ⟨w.heap.size, x4, none⟩))].getD i Fact.no) (by kernel_rfl) (by kernel_rfl) rfl rfl ?_ ?_
  · skip
    intro i hi
    obtain rfl | rfl | rfl | rfl | rfl | rfl | rfl | rfl | rfl | rfl : i = 0 ∨ i = 1 ∨ i = 2 ∨ i = 3 ∨ i = 4 ∨ i = 5 ∨ i = 6 ∨ i = 7 ∨ i = 8 ∨ i = 9 := by omega
    · refine step_pure rfl fun a u hb hw hf => ?_
      have e4 : a.tmps[4]?.getD undef = .int .i64 (x4 : Int) := gdv (hb.2.2 4 (by kernel_rfl))
      exact ⟨.int .i64 (x4 : Int), by simp [go_sem, e4], rfl⟩
    · refine step_pure rfl fun a u hb hw hf => ?_
      have e4 : a.tmps[4]?.getD undef = .int .i64 (x4 : Int) := gdv (hb.2.2 4 (by kernel_rfl))
      exact ⟨.int .i64 (x4 : Int), by simp [go_sem, e4], rfl⟩
    · refine step_pure rfl fun a u hb hw hf => ?_
      have e5 : a.tmps[5]?.getD undef = .pointer (some ⟨w.heap.size, 0, none⟩) := gdv (hb.2.2 5 (by kernel_rfl))
      have e59 : a.tmps[59]?.getD undef = .int .i64 (x4 : Int) := gdv (hf 1 59 (by kernel_rfl))
      exact ⟨.pointer (some ⟨w.heap.size, x4, none⟩), by simp [go_sem, e5, e59, pl], rfl⟩
    · refine step_pure rfl fun a u hb hw hf => ?_
      have e60 : a.tmps[60]?.getD undef = .pointer (some ⟨w.heap.size, x4, none⟩) := gdv (hf 2 60 (by kernel_rfl))
      have hc := cx _ hw
      exact ⟨.int .u32 D1, by simp [go_sem, e60, hc], rfl⟩
    · refine step_pure rfl fun a u hb hw hf => ?_
      have e1 : a.tmps[1]?.getD undef = .int .i64 (x1 : Int) := gdv (hb.2.2 1 (by kernel_rfl))
      exact ⟨.int .i64 (x1 : Int), by simp [go_sem, e1], rfl⟩
    · refine step_pure rfl fun a u hb hw hf => ?_
      have e5 : a.tmps[5]?.getD undef = .pointer (some ⟨w.heap.size, 0, none⟩) := gdv (hb.2.2 5 (by kernel_rfl))
      have e62 : a.tmps[62]?.getD undef = .int .i64 (x1 : Int) := gdv (hf 4 62 (by kernel_rfl))
      exact ⟨.pointer (some ⟨w.heap.size, x1, none⟩), by simp [go_sem, e5, e62, pi], rfl⟩
    · refine step_pure rfl fun a u hb hw hf => ?_
      have e63 : a.tmps[63]?.getD undef = .pointer (some ⟨w.heap.size, x1, none⟩) := gdv (hf 5 63 (by kernel_rfl))
      have hc := cy _ hw
      exact ⟨.int .u32 A2, by simp [go_sem, e63, hc], rfl⟩
    · refine step_pure rfl fun a u hb hw hf => ?_
      have e61 : a.tmps[61]?.getD undef = .int .u32 D1 := gdv (hf 3 61 (by kernel_rfl))
      have e64 : a.tmps[64]?.getD undef = .int .u32 A2 := gdv (hf 6 64 (by kernel_rfl))
      exact ⟨.int .u32 (bits BinOp.xor IntKind.u32 D1 A2), by simp [go_sem, e61, e64], rfl⟩
    · refine step_callv rfl 139 _ _ rfl (by kernel_rfl) fun a u hb hw hf => ?_
      have e65 : a.tmps.getD 65 undef = .int .u32 (bits BinOp.xor IntKind.u32 D1 A2) := hf 7 65 (by kernel_rfl)
      show Calls Tryz.prog 139 #[a.tmps.getD 65 undef, .int .u64 8] u _
      rw [e65]
      exact (L3 u).out
    · refine step_pure rfl fun a u hb hw hf => ?_
      have e5 : a.tmps[5]?.getD undef = .pointer (some ⟨w.heap.size, 0, none⟩) := gdv (hb.2.2 5 (by kernel_rfl))
      have e58 : a.tmps[58]?.getD undef = .int .i64 (x4 : Int) := gdv (hf 0 58 (by kernel_rfl))
      exact ⟨.pointer (some ⟨w.heap.size, x4, none⟩), by simp [go_sem, e5, e58, pl], rfl⟩
  intro a u hb hw hf
  have ep : a.tmps[67]?.getD undef = .pointer (some ⟨w.heap.size, x4, none⟩) := gdv (hf 9 67 (by kernel_rfl))
  have ev : a.tmps[66]?.getD undef = .int .u32 D2 := gdv (hf 8 66 (by kernel_rfl))
  have hcc := cx u hw
  have hff := (hB.up hw).free x4
  have hB' := (hB.up hw).store x4 D2
  rw [set4_l ne ⟨A2, B1, C1, D1⟩] at hB'
  have O2 := Only.setCell u w.heap.size x4 (.int .u32 D2)
  have hZ' := (hZ.up hw).of_block (O2.block (w.heap.size + 1) (by omega))
  have hN' := hN.trans ((hw.mono hN.size).trans (O2.below (Nat.le_refl _)))
  obtain ⟨vs, hvs⟩ : ∃ vs : Nat → Value, ∀ d, a.tmps.getD d undef = vs d := ⟨_, fun _ => rfl⟩
  have ea := puts_of (md := .any) (n := 88) (k := 10) (by kernel_rfl) rfl hb vs hvs
  unfold Oper.wp
  simp [go_sem, ep, ev, hcc, hff]
  rw [ea]
  clear ea hvs ep ev hf hb hcc hff cx cy hB hZ hN hw
  simp only [puts, Act.put, List.setIfInBounds_toArray, List.set_cons_succ, List.set_cons_zero]
  generalize u.setCell ⟨w.heap.size, x4, none⟩ (.int .u32 D2) = wr6 at *
  have hB := hB'
  have hZ := hZ'
  have hN := hN'
  clear O2 hB' hZ' hN'
  have cx : ∀ u, Below wr6.heap.size wr6 u → u.cell? ⟨w.heap.size, x3, none⟩ = some (.int .u32 C1) := fun u hu => by
    have := (hB.up hu).cell (i := x3) (by rw [put4_len, HL.out]; exact hk)
    rw [put4_k HL.out ne ⟨A2, B1, C1, D2⟩ hk] at this
    exact this
  have cy : ∀ u, Below wr6.heap.size wr6 u → u.cell? ⟨w.heap.size, x4, none⟩ = some (.int .u32 D2) := fun u hu => by
    have := (hB.up hu).cell (i := x4) (by rw [put4_len, HL.out]; exact hl)
    rw [put4_l HL.out ne ⟨A2, B1, C1, D2⟩ hl] at this
    exact this
  go_wp2_with fail
  refine region_store 9 _ (fun i => [Fact.eq (.int .i64 (x3 : Int)), Fact.eq (.int .i64 (x3 : Int)), Fact.eq (.pointer (some ⟨w.heap.size, x3, none⟩)), Fact.eq (.int .u32 C1), Fact.eq (.int .i64 (x4 : Int)), Fact.eq (.pointer (some ⟨w.heap.size, x4, none⟩)), Fact.eq (.int .u32 D2), Fact.eq (.int .u32 C2), Fact.eq (.pointer (some ⟨w.heap.size, x3, none⟩))].getD i Fact.no) (by kernel_rfl) (by kernel_rfl) rfl rfl ?_ ?_
  · skip
    intro i hi
    obtain rfl | rfl | rfl | rfl | rfl | rfl | rfl | rfl | rfl : i = 0 ∨ i = 1 ∨ i = 2 ∨ i = 3 ∨ i = 4 ∨ i = 5 ∨ i = 6 ∨ i = 7 ∨ i = 8 := by omega
    · refine step_pure rfl fun a u hb hw hf => ?_
      have e3 : a.tmps[3]?.getD undef = .int .i64 (x3 : Int) := gdv (hb.2.2 3 (by kernel_rfl))
      exact ⟨.int .i64 (x3 : Int), by simp [go_sem, e3], rfl⟩
    · refine step_pure rfl fun a u hb hw hf => ?_
      have e3 : a.tmps[3]?.getD undef = .int .i64 (x3 : Int) := gdv (hb.2.2 3 (by kernel_rfl))
      exact ⟨.int .i64 (x3 : Int), by simp [go_sem, e3], rfl⟩
    · refine step_pure rfl fun a u hb hw hf => ?_
      have e5 : a.tmps[5]?.getD undef = .pointer (some ⟨w.heap.size, 0, none⟩) := gdv (hb.2.2 5 (by kernel_rfl))
      have e69 : a.tmps[69]?.getD undef = .int .i64 (x3 : Int) := gdv (hf 1 69 (by kernel_rfl))
      exact ⟨.pointer (some ⟨w.heap.size, x3, none⟩), by simp [go_sem, e5, e69, pk], rfl⟩
    · refine step_pure rfl fun a u hb hw hf => ?_
      have e70 : a.tmps[70]?.getD undef = .pointer (some ⟨w.heap.size, x3, none⟩) := gdv (hf 2 70 (by kernel_rfl))
      have hc := cx _ hw
      exact ⟨.int .u32 C1, by simp [go_sem, e70, hc], rfl⟩
    · refine step_pure rfl fun a u hb hw hf => ?_
      have e4 : a.tmps[4]?.getD undef = .int .i64 (x4 : Int) := gdv (hb.2.2 4 (by kernel_rfl))
      exact ⟨.int .i64 (x4 : Int), by simp [go_sem, e4], rfl⟩
    · refine step_pure rfl fun a u hb hw hf => ?_
      have e5 : a.tmps[5]?.getD undef = .pointer (some ⟨w.heap.size, 0, none⟩) := gdv (hb.2.2 5 (by kernel_rfl))
      have e72 : a.tmps[72]?.getD undef = .int .i64 (x4 : Int) := gdv (hf 4 72 (by kernel_rfl))
      exact ⟨.pointer (some ⟨w.heap.size, x4, none⟩), by simp [go_sem, e5, e72, pl], rfl⟩
    · refine step_pure rfl fun a u hb hw hf => ?_
      have e73 : a.tmps[73]?.getD undef = .pointer (some ⟨w.heap.size, x4, none⟩) := gdv (hf 5 73 (by kernel_rfl))
      have hc := cy _ hw
      exact ⟨.int .u32 D2, by simp [go_sem, e73, hc], rfl⟩
    · refine step_pure rfl fun a u hb hw hf => ?_
      have e71 : a.tmps[71]?.getD undef = .int .u32 C1 := gdv (hf 3 71 (by kernel_rfl))
      have e74 : a.tmps[74]?.getD undef = .int .u32 D2 := gdv (hf 6 74 (by kernel_rfl))
      exact ⟨.int .u32 C2, by simp [go_sem, e71, e74, IntKind.wrap_u32', f7.out], rfl⟩
    · refine step_pure rfl fun a u hb hw hf => ?_
      have e5 : a.tmps[5]?.getD undef = .pointer (some ⟨w.heap.size, 0, none⟩) := gdv (hb.2.2 5 (by kernel_rfl))
      have e68 : a.tmps[68]?.getD undef = .int .i64 (x3 : Int) := gdv (hf 0 68 (by kernel_rfl))
      exact ⟨.pointer (some ⟨w.heap.size, x3, none⟩), by simp [go_sem, e5, e68, pk], rfl⟩
  intro a u hb hw hf
  have ep : a.tmps[76]?.getD undef = .pointer (some ⟨w.heap.size, x3, none⟩) := gdv (hf 8 76 (by kernel_rfl))
  have ev : a.tmps[75]?.getD undef = .int .u32 C2 := gdv (hf 7 75 (by kernel_rfl))
  have hcc := cx u hw
  have hff := (hB.up hw).free x3
  have hB' := (hB.up hw).store x3 C2
  rw [set4_k ne ⟨A2, B1, C1, D2⟩] at hB'
  have O2 := Only.setCell u w.heap.size x3 (.int .u32 C2)
  have hZ' := (hZ.up hw).of_block (O2.block (w.heap.size + 1) (by omega))
  have hN' := hN.trans ((hw.mono hN.size).trans (O2.below (Nat.le_refl _)))
  obtain ⟨vs, hvs⟩ : ∃ vs : Nat → Value, ∀ d, a.tmps.getD d undef = vs d := ⟨_, fun _ => rfl⟩
  have ea := puts_of (md := .any) (n := 88) (k := 9) (by kernel_rfl) rfl hb vs hvs
  unfold Oper.wp
  simp [go_sem, ep, ev, hcc, hff]
  rw [ea]
  clear ea hvs ep ev hf hb hcc hff cx cy hB hZ hN hw
  simp only [puts, Act.put, List.setIfInBounds_toArray, List.set_cons_succ, List.set_cons_zero]
  generalize u.setCell ⟨w.heap.size, x3, none⟩ (.int .u32 C2) = wr7 at *
  have hB := hB'
  have hZ := hZ'
  have hN := hN'
  clear O2 hB' hZ' hN'
  have cx : ∀ u, Below wr7.heap.size wr7 u → u.cell? ⟨w.heap.size, x2, none⟩ = some (.int .u32 B1) := fun u hu => by
    have := (hB.up hu).cell (i := x2) (by rw [put4_len, HL.out]; exact hj)
    rw [put4_j HL.out ne ⟨A2, B1, C2, D2⟩ hj] at this
    exact this
  have cy : ∀ u, Below wr7.heap.size wr7 u → u.cell? ⟨w.heap.size, x3, none⟩ = some (.int .u32 C2) := fun u hu => by
    have := (hB.up hu).cell (i := x3) (by rw [put4_len, HL.out]; exact hk)
    rw [put4_k HL.out ne ⟨A2, B1, C2, D2⟩ hk] at this
    exact this
  go_wp2_with fail
  refine region_store 10 _ (fun i => [Fact.eq (.int .i64 (x2 : Int)), Fact.eq (.int .i64 (x2 : Int)), Fact.eq (.pointer (some ⟨w.heap.size, x2, none⟩)), Fact.eq (.int .u32 B1), Fact.eq (.int .i64 (x3 : Int)), Fact.eq (.pointer (some ⟨w.heap.size, x3, none⟩)), Fact.eq (.int .u32 C2), Fact.eq (.int .u32 (bits BinOp.xor IntKind.u32 B1 C2)), Fact.eq (.int .u32 B2), Fact.eq (.pointer (some ⟨w.heap.size, x2, none⟩))].getD i Fact.no) (by kernel_rfl) (by kernel_rfl) rfl rfl ?_ ?_
  · skip
    intro i hi
    obtain rfl | rfl | rfl | rfl | rfl | rfl | rfl | rfl | rfl | rfl : i = 0 ∨ i = 1 ∨ i = 2 ∨ i = 3 ∨ i = 4 ∨ i = 5 ∨ i = 6 ∨ i = 7 ∨ i = 8 ∨ i = 9 := by omega
    · refine step_pure rfl fun a u hb hw hf => ?_
      have e2 : a.tmps[2]?.getD undef = .int .i64 (x2 : Int) := gdv (hb.2.2 2 (by kernel_rfl))
      exact ⟨.int .i64 (x2 : Int), by simp [go_sem, e2], rfl⟩
    · refine step_pure rfl fun a u hb hw hf => ?_
      have e2 : a.tmps[2]?.getD undef = .int .i64 (x2 : Int) := gdv (hb.2.2 2 (by kernel_rfl))
      exact ⟨.int .i64 (x2 : Int), by simp [go_sem, e2], rfl⟩
    · refine step_pure rfl fun a u hb hw hf => ?_
      have e5 : a.tmps[5]?.getD undef = .pointer (some ⟨w.heap.size, 0, none⟩) := gdv (hb.2.2 5 (by kernel_rfl))
      have e78 : a.tmps[78]?.getD undef = .int .i64 (x2 : Int) := gdv (hf 1 78 (by kernel_rfl))
      exact ⟨.pointer (some ⟨w.heap.size, x2, none⟩), by simp [go_sem, e5, e78, pj], rfl⟩
    · refine step_pure rfl fun a u hb hw hf => ?_
      have e79 : a.tmps[79]?.getD undef = .pointer (some ⟨w.heap.size, x2, none⟩) := gdv (hf 2 79 (by kernel_rfl))
      have hc := cx _ hw
      exact ⟨.int .u32 B1, by simp [go_sem, e79, hc], rfl⟩
    · refine step_pure rfl fun a u hb hw hf => ?_
      have e3 : a.tmps[3]?.getD undef = .int .i64 (x3 : Int) := gdv (hb.2.2 3 (by kernel_rfl))
      exact ⟨.int .i64 (x3 : Int), by simp [go_sem, e3], rfl⟩
    · refine step_pure rfl fun a u hb hw hf => ?_
      have e5 : a.tmps[5]?.getD undef = .pointer (some ⟨w.heap.size, 0, none⟩) := gdv (hb.2.2 5 (by kernel_rfl))
      have e81 : a.tmps[81]?.getD undef = .int .i64 (x3 : Int) := gdv (hf 4 81 (by kernel_rfl))
      exact ⟨.pointer (some ⟨w.heap.size, x3, none⟩), by simp [go_sem, e5, e81, pk], rfl⟩
    · refine step_pure rfl fun a u hb hw hf => ?_
      have e82 : a.tmps[82]?.getD undef = .pointer (some ⟨w.heap.size, x3, none⟩) := gdv (hf 5 82 (by kernel_rfl))
      have hc := cy _ hw
      exact ⟨.int .u32 C2, by simp [go_sem, e82, hc], rfl⟩
    · refine step_pure rfl fun a u hb hw hf => ?_
      have e80 : a.tmps[80]?.getD undef = .int .u32 B1 := gdv (hf 3 80 (by kernel_rfl))
      have e83 : a.tmps[83]?.getD undef = .int .u32 C2 := gdv (hf 6 83 (by kernel_rfl))
      exact ⟨.int .u32 (bits BinOp.xor IntKind.u32 B1 C2), by simp [go_sem, e80, e83], rfl⟩
    · refine step_callv rfl 139 _ _ rfl (by kernel_rfl) fun a u hb hw hf => ?_
      have e84 : a.tmps.getD 84 undef = .int .u32 (bits BinOp.xor IntKind.u32 B1 C2) := hf 7 84 (by kernel_rfl)
      show Calls Tryz.prog 139 #[a.tmps.getD 84 undef, .int .u64 7] u _
      rw [e84]
      exact (L4 u).out
    · refine step_pure rfl fun a u hb hw hf => ?_
      have e5 : a.tmps[5]?.getD undef = .pointer (some ⟨w.heap.size, 0, none⟩) := gdv (hb.2.2 5 (by kernel_rfl))
      have e77 : a.tmps[77]?.getD undef = .int .i64 (x2 : Int) := gdv (hf 0 77 (by kernel_rfl))
      exact ⟨.pointer (some ⟨w.heap.size, x2, none⟩), by simp [go_sem, e5, e77, pj], rfl⟩
  intro a u hb hw hf
  have ep : a.tmps[86]?.getD undef = .pointer (some ⟨w.heap.size, x2, none⟩) := gdv (hf 9 86 (by kernel_rfl))
  have ev : a.tmps[85]?.getD undef = .int .u32 B2 := gdv (hf 8 85 (by kernel_rfl))
  have hcc := cx u hw
  have hff := (hB.up hw).free x2
  have hB' := (hB.up hw).store x2 B2
  rw [set4_j ne ⟨A2, B1, C2, D2⟩] at hB'
  have O2 := Only.setCell u w.heap.size x2 (.int .u32 B2)
  have hZ' := (hZ.up hw).of_block (O2.block (w.heap.size + 1) (by omega))
  have hN' := hN.trans ((hw.mono hN.size).trans (O2.below (Nat.le_refl _)))
  obtain ⟨vs, hvs⟩ : ∃ vs : Nat → Value, ∀ d, a.tmps.getD d undef = vs d := ⟨_, fun _ => rfl⟩
  have ea := puts_of (md := .any) (n := 88) (k := 10) (by kernel_rfl) rfl hb vs hvs
  unfold Oper.wp
  simp [go_sem, ep, ev, hcc, hff]
  rw [ea]
  clear ea hvs ep ev hf hb hcc hff cx cy hB hZ hN hw
  simp only [puts, Act.put, List.setIfInBounds_toArray, List.set_cons_succ, List.set_cons_zero]
  generalize u.setCell ⟨w.heap.size, x2, none⟩ (.int .u32 B2) = wr8 at *
  have hB := hB'
  have hZ := hZ'
  have hN := hN'
  clear O2 hB' hZ' hN'
  have RG := (Seg.blk hB).range
  have L : Hid (((put4 ys x1 x2 x3 x4 ⟨A2, B2, C2, D2⟩).map (Value.int .u32)).length = 16) := by show _ = _; rw [List.length_map, put4_len]; exact HL.out
  have O := one_ints .u32 (put4 ys x1 x2 x3 x4 ⟨A2, B2, C2, D2⟩)
  obtain ⟨t0, H0⟩ := hZ
  have SR := setRow_heap wr8 (w.heap.size + 1) _ ((put4 ys x1 x2 x3 x4 ⟨A2, B2, C2, D2⟩).map (Value.int .u32)).toArray _ _ H0
  have SN : Below w.heap.size w (wr8.setRow (w.heap.size + 1) ((put4 ys x1 x2 x3 x4 ⟨A2, B2, C2, D2⟩).map (Value.int .u32)).toArray) := hN.trans ((only_setRow wr8 (w.heap.size + 1) _).below (by omega))
  have V : Hid (ag .u32 (put4 ys x1 x2 x3 x4 ⟨A2, B2, C2, D2⟩) = Value.agg ((put4 ys x1 x2 x3 x4 ⟨A2, B2, C2, D2⟩).map (Value.int .u32)).toArray) := rfl
  obtain ⟨vs', hv⟩ : ∃ v, v = (put4 ys x1 x2 x3 x4 ⟨A2, B2, C2, D2⟩).map (Value.int .u32) := ⟨_, rfl⟩
  rw [← hv] at RG L O SR SN V
  clear hv hB
  go_wp2_with (first
    | (refine wpList_load_mid rfl 119 (.tmp 5) rfl w.heap.size 0 rfl vs' (.array 16 118) RG und16 rfl (by rw [L.out]; exact info16) ?_)
    | (refine wpList_store_row rfl 119 (.tmp 10) (.tmp 87) rfl (w.heap.size + 1) vs'.toArray rfl rfl t0 _ H0 (by rw [List.size_toArray, L.out]; exact info16) (by rw [List.size_toArray, List.size_toArray, L.out]; rfl) O ?_))
  exact bodyPost_ret (v := .agg vs'.toArray) (results_cell_row Tryz.results106 _ _ (w.heap.size + 1) t0 vs'.toArray (0, 0) (.array 16 118) rfl SR und16 rfl (by rw [List.size_toArray, L.out]; exact info16)) rfl ⟨by rw [V.out], SN⟩
end Go.Proofs.YtbdecibgejmelaaGreatDoor

/-
  The model's StreamBlock (written by gens/ccf.py).
-/
namespace Go.Proofs.YtbdecibgejmelaaGreatDoor
set_option maxRecDepth 100000
open Go Go.RowKit

set_option maxHeartbeats 1000000 in
theorem fits_any (w : World) (a a' : Option Addr) (c c' : Nat) (key non : List Int) (ct : Int) : Calls Tryz.prog 62 #[.slice a key.length c, .int .i64 ct, .slice a' non.length c'] w fun e w' => e = .returned (.bool (fitB key ct non)) ∧ w' = w := by
  unfold fitB
  generalize key.length = n at *
  generalize non.length = m at *
  by_cases h : n = 32
  · subst h
    by_cases h' : m = 12
    · subst h'
      by_cases h1 : 0 ≤ ct
      · by_cases h2 : ct ≤ 4294967295
        · go_enter Tryz.func62, Tryz.ntmps62
          go_wp2
          go_ret
          exact ⟨by simp [h1, h2], rfl⟩
        · have q : decide (ct ≤ 4294967295) = false := by simpa using h2
          go_enter Tryz.func62, Tryz.ntmps62
          go_wp2
          go_ret
          exact ⟨by simp, rfl⟩
      · have q : decide (0 ≤ ct) = false := by simpa using h1
        go_enter Tryz.func62, Tryz.ntmps62
        go_wp2
        go_ret
        exact ⟨by simp, rfl⟩
    · have q : decide ((m : Int) = 12) = false := by simp; omega
      go_enter Tryz.func62, Tryz.ntmps62
      go_wp2
      go_ret
      exact ⟨by simp [h'] <;> omega, rfl⟩
  · have q : decide ((n : Int) = 32) = false := by simp; omega
    go_enter Tryz.func62, Tryz.ntmps62
    go_wp2
    go_ret
    exact ⟨by simp [h], rfl⟩
/-- The columns, and the slanting lines, one behind the other. -/
def clA (ys : List Int) : Nat → List Int
  | 0 => ys
  | i + 1 => qrL (clA ys i) i (4 + i) (8 + i) (12 + i)
def clB (ys : List Int) : Nat → List Int
  | 0 => ys
  | i + 1 => qrL (clB ys i) i (4 + (i + 1) % 4) (8 + (i + 2) % 4) (12 + (i + 3) % 4)
theorem clA_len (ys : List Int) : ∀ i, (clA ys i).length = ys.length
  | 0 => rfl
  | i + 1 => by rw [clA, qrL_len]; exact clA_len ys i
theorem clB_len (ys : List Int) : ∀ i, (clB ys i).length = ys.length
  | 0 => rfl
  | i + 1 => by rw [clB, qrL_len]; exact clB_len ys i
theorem clA_ws {ys : List Int} (h : Ws ys) : ∀ i, Ws (clA ys i)
  | 0 => h
  | i + 1 => (clA_ws h i).qr _ _ _ _
theorem clB_ws {ys : List Int} (h : Ws ys) : ∀ i, Ws (clB ys i)
  | 0 => h
  | i + 1 => (clB_ws h i).qr _ _ _ _
theorem dbl_cl (ys : List Int) : clB (clA ys 4) 4 = dbl ys := by
  unfold dbl
  simp only [clA, clB, Nat.zero_add, Nat.reduceAdd, Nat.reduceMod, Nat.add_zero]
/-- The bytes of n words. -/
def oW (v : Int) : List Int := [v % 256, v / 256 % 256, v / 65536 % 256, v / 16777216]
def oL (st rs : List Int) : Nat → List Int
  | 0 => []
  | n + 1 => oL st rs n ++ oW ((rs.getD n 0 + st.getD n 0) % 4294967296)
theorem oL_len (st rs : List Int) : ∀ n, (oL st rs n).length = 4 * n
  | 0 => rfl
  | n + 1 => by rw [oL, List.length_append, oL_len st rs n]; rfl
theorem fill_succ (f : Nat → Int) (n : Nat) : fill f (n + 1) = fill f n ++ [f n] := by unfold fill; rw [List.range_succ, List.map_append]; rfl
theorem oL_fill (st rs : List Int) : ∀ n, oL st rs n = fill (stF st rs) (4 * n)
  | 0 => rfl
  | n + 1 => by
    rw [oL, oL_fill st rs n, show 4 * (n + 1) = 4 * n + 1 + 1 + 1 + 1 by omega, fill_succ, fill_succ, fill_succ, fill_succ]
    have e : ∀ j, j < 4 → stF st rs (4 * n + j) = (rs.getD n 0 + st.getD n 0) % 4294967296 / 2 ^ (8 * j) % 256 := fun j hj => by
      unfold stF
      rw [show (4 * n + j) / 4 = n by omega, show (4 * n + j) % 4 = j by omega, Int.add_comm]
    have e0 := e 0 (by decide)
    have e1 := e 1 (by decide)
    have e2 := e 2 (by decide)
    have e3 := e 3 (by decide)
    rw [Nat.add_zero] at e0
    rw [show 4 * n + 1 + 1 = 4 * n + 2 by omega, show 4 * n + 2 + 1 = 4 * n + 3 by omega, e0, e1, e2, e3]
    have v0 : 0 ≤ (rs.getD n 0 + st.getD n 0) % 4294967296 ∧ (rs.getD n 0 + st.getD n 0) % 4294967296 < 4294967296 := ⟨by omega, by omega⟩
    generalize (rs.getD n 0 + st.getD n 0) % 4294967296 = v at *
    have e4 : v / 16777216 % 256 = v / 16777216 := by omega
    unfold oW
    simp [e4]
theorem wsF_set (ys : List Int) (c : Int) (xs : List Int) (pl : Nat) (h : 12 < pl) : ∀ k, wsF (ys.set 12 c) pl xs k = (wsF ys pl xs k).set 12 c
  | 0 => rfl
  | k + 1 => by rw [wsF, wsF, wsF_set ys c xs pl h k, List.set_comm _ _ (by omega)]
set_option maxRecDepth 100000 in
set_option maxHeartbeats 8000000 in
theorem specBlock_core (w : World) (g : Nat) (a : Option Addr) (c : Nat) (key : List Int) (hr : Rd w g a .u8 key) (hb : Byt key) (hl : key.length = 32) (hc : key.length ≤ c) (ct : Int) (h0 : 0 ≤ ct) (h1 : ct < 4294967296) (g' : Nat) (a' : Option Addr) (c' : Nat) (non : List Int) (hr' : Rd w g' a' .u8 non) (hb' : Byt non) (hl' : non.length = 12) (hc' : non.length ≤ c')
    (hf : fitB key ct non = true) (rn : Nat) (hrn : rn = 10) :
    Calls Tryz.prog 84 #[.slice a key.length c, .int .i64 ct, .slice a' non.length c'] w fun e w' => NewRow w.heap.size w' e .u8 (fill (stF ((nsW key non).set 12 ct) (rds rn ((nsW key non).set 12 ct))) 64) ∧ Below w.heap.size w w' := by
  have HRN := hide hrn
  clear hrn
  obtain ⟨i0, hi, hz0, hz1, hz2⟩ := info_parts Tryz.info5
  have FT := fits_any w a a' c c' key non ct
  rw [hf] at FT
  clear hf
  have gl := hr.lt (by omega)
  have gl' := hr'.lt (by omega)
  obtain ⟨o, ea, -⟩ := hr (by omega)
  obtain ⟨o', ea', -⟩ := hr' (by omega)
  subst ea
  subst ea'
  have HL := hide hl
  have HL' := hide hl'
  have hcI : (key.length : Int) ≤ (c : Int) := by omega
  have hcI' : (non.length : Int) ≤ (c' : Int) := by omega
  have cw : ct % 4294967296 = ct := by omega
  have n1 : Below w.heap.size w (w.alloc (.cells #[.int .u32 1634760805, .int .u32 857760878, .int .u32 2036477234, .int .u32 1797285236, .int .u32 0, .int .u32 0, .int .u32 0, .int .u32 0, .int .u32 0, .int .u32 0, .int .u32 0, .int .u32 0, .int .u32 0, .int .u32 0, .int .u32 0, .int .u32 0] 119)) := (Below.refl _ _).alloc (Nat.le_refl _) _
  have B1 : Blk (w.alloc (.cells #[.int .u32 1634760805, .int .u32 857760878, .int .u32 2036477234, .int .u32 1797285236, .int .u32 0, .int .u32 0, .int .u32 0, .int .u32 0, .int .u32 0, .int .u32 0, .int .u32 0, .int .u32 0, .int .u32 0, .int .u32 0, .int .u32 0, .int .u32 0] 119)) w.heap.size .u32 st0 := blk_alloc w .u32 119 st0
  have z1 : (w.alloc (.cells #[.int .u32 1634760805, .int .u32 857760878, .int .u32 2036477234, .int .u32 1797285236, .int .u32 0, .int .u32 0, .int .u32 0, .int .u32 0, .int .u32 0, .int .u32 0, .int .u32 0, .int .u32 0, .int .u32 0, .int .u32 0, .int .u32 0, .int .u32 0] 119)).heap.size = w.heap.size + 1 := by simp
  generalize hkl : key.length = kl at *
  generalize hnl : non.length = nl at *
  have HK := hide hkl
  have HN := hide hnl
  clear hkl hnl
  subst hl
  subst hl'
  go_enter Tryz.func84, Tryz.ntmps84
  go_wp2_with fail
  refine FT.mono ?_
  rintro e w1 ⟨rfl, rfl⟩
  clear FT
  go_wp2
  generalize w1.alloc (.cells #[.int .u32 1634760805, .int .u32 857760878, .int .u32 2036477234, .int .u32 1797285236, .int .u32 0, .int .u32 0, .int .u32 0, .int .u32 0, .int .u32 0, .int .u32 0, .int .u32 0, .int .u32 0, .int .u32 0, .int .u32 0, .int .u32 0, .int .u32 0] 119) = wa at *
  go_loopw [8] (fun v wr => ∃ (i : Nat), i ≤ 8 ∧ v = .int .i64 i ∧ Blk wr w1.heap.size .u32 (wsF st0 4 key i) ∧ Below w1.heap.size w1 wr) (fun v _ => 8 - (intOf v).toNat)
  case atStart => exact ⟨0, Nat.zero_le _, rfl, B1, n1⟩
  case round =>
    obtain ⟨i, hi8, rfl, hB, hN⟩ := hrel
    clear B1 n1 z1
    by_cases hlt : i < 8
    · have LWc := l8Word_any wr g (some ⟨g, o + 4 * i, none⟩) (c - 4 * i) _ (rd_part (hr.up hN) (4 * i) (32 - 4 * i) (by rw [HK.out]; omega)) (byt_part hb _ _) (by rw [part_len _ _ _ (by rw [HK.out]; omega)]; omega)
      rw [part_len _ _ _ (by rw [HK.out]; omega)] at LWc
      have lv : lw ((key.drop (4 * i)).take (32 - 4 * i)) 0 = lw key (4 * i) := by
        unfold lw
        rw [part_get key _ _ 0 (by omega), part_get key _ _ (0 + 1) (by omega), part_get key _ _ (0 + 2) (by omega), part_get key _ _ (0 + 3) (by omega)]
        simp only [Nat.zero_add, Nat.add_zero]
      rw [lv] at LWc
      have HC := hide LWc
      have e1 := hB.cell (i := 4 + i) (by rw [wsF_len]; show _ < 16; omega)
      have f1 := hB.free (4 + i)
      have B' := hB.store (4 + i) (lw key (4 * i))
      have WS : Hid ((wsF st0 4 key i).set (4 + i) (lw key (4 * i)) = wsF st0 4 key (i + 1)) := rfl
      have d1 : (4 : Int) + (i : Int) = ((4 + i : Nat) : Int) := by omega
      have d2 : (4 : Int) * (i : Int) = ((4 * i : Nat) : Int) := by omega
      have d3 : ((4 + i : Nat) : Int) < 16 := by omega
      have d4 : ((4 * i : Nat) : Int) ≤ 32 := by omega
      have d5 : 4 * i ≤ 32 := by omega
      have d6 : ¬ (4 * i = c) := by omega
      have d7 : 4 * i < c := by omega
      clear LWc lv B'
      generalize (wsF st0 4 key i).getD (4 + i) 0 = y0 at *
      generalize lw key (4 * i) = lv at *
      generalize 4 + i = p4 at *
      generalize h4 : 4 * i = q4 at *
      go_wp2_with fail
      refine HC.out.mono ?_
      rintro e w2 ⟨rfl, m, rfl⟩
      have hB2 : Blk (wr.drewN m) w1.heap.size .u32 (wsF st0 4 key i) := hB
      have B2 := hB2.store p4 lv
      rw [WS.out] at B2
      have N2 := (below_drewN hN m).trans ((Only.setCell (wr.drewN m) w1.heap.size p4 (.int .u32 lv)).below (Nat.le_refl _))
      clear HC WS hB hB2 hN
      go_wp2
      go_roundw
      case rel => exact ⟨i + 1, by omega, by go_num, B2, N2⟩
      case measure => simp [intOf]; omega
    · obtain rfl : i = 8 := by omega
      rw [show ((8 : Nat) : Int) = 8 from rfl]
      have e12 := hB.cell (i := 12) (by rw [wsF_len]; decide)
      have f12 := hB.free 12
      have B2 := hB.store 12 ct
      have N2 := hN.trans ((Only.setCell wr w1.heap.size 12 (.int .u32 ct)).below (Nat.le_refl _))
      have yl : ((wsF st0 4 key 8).set 12 ct).length = 16 := by rw [List.length_set, wsF_len]; rfl
      have SW : wsF ((wsF st0 4 key 8).set 12 ct) 13 non 3 = (nsW key non).set 12 ct := wsF_set _ ct non 13 (by decide) 3
      generalize (wsF st0 4 key 8).getD 12 0 = y12 at *
      generalize (wsF st0 4 key 8).set 12 ct = yk at *
      have YL := hide yl
      have SWH := hide SW
      clear hB hN yl SW
      go_wp2
      generalize wr.setCell ⟨w1.heap.size, 12, none⟩ (.int .u32 ct) = wb at *
      go_loopw [9] (fun v wr => ∃ (i : Nat), i ≤ 3 ∧ v = .int .i64 i ∧ Blk wr w1.heap.size .u32 (wsF yk 13 non i) ∧ Below w1.heap.size w1 wr) (fun v _ => 3 - (intOf v).toNat)
      case atStart => exact ⟨0, Nat.zero_le _, rfl, B2, N2⟩
      case round =>
        obtain ⟨i, hi3, rfl, hB, hN⟩ := hrel
        clear B2 N2 e12 f12
        by_cases hlt : i < 3
        · have LWc := l8Word_any wr g' (some ⟨g', o' + 4 * i, none⟩) (c' - 4 * i) _ (rd_part (hr'.up hN) (4 * i) (12 - 4 * i) (by rw [HN.out]; omega)) (byt_part hb' _ _) (by rw [part_len _ _ _ (by rw [HN.out]; omega)]; omega)
          rw [part_len _ _ _ (by rw [HN.out]; omega)] at LWc
          have lv : lw ((non.drop (4 * i)).take (12 - 4 * i)) 0 = lw non (4 * i) := by
            unfold lw
            rw [part_get non _ _ 0 (by omega), part_get non _ _ (0 + 1) (by omega), part_get non _ _ (0 + 2) (by omega), part_get non _ _ (0 + 3) (by omega)]
            simp only [Nat.zero_add, Nat.add_zero]
          rw [lv] at LWc
          have HC := hide LWc
          have e1 := hB.cell (i := 13 + i) (by rw [wsF_len, YL.out]; omega)
          have f1 := hB.free (13 + i)
          have WS : Hid ((wsF yk 13 non i).set (13 + i) (lw non (4 * i)) = wsF yk 13 non (i + 1)) := rfl
          have d1 : (13 : Int) + (i : Int) = ((13 + i : Nat) : Int) := by omega
          have d2 : (4 : Int) * (i : Int) = ((4 * i : Nat) : Int) := by omega
          have d3 : ((13 + i : Nat) : Int) < 16 := by omega
          have d4 : ((4 * i : Nat) : Int) ≤ 12 := by omega
          have d5 : 4 * i ≤ 12 := by omega
          have d6 : ¬ (4 * i = c') := by omega
          have d7 : 4 * i < c' := by omega
          clear LWc lv
          generalize (wsF yk 13 non i).getD (13 + i) 0 = y0 at *
          generalize lw non (4 * i) = lv at *
          generalize 13 + i = p4 at *
          generalize h4 : 4 * i = q4 at *
          go_wp2_with fail
          refine HC.out.mono ?_
          rintro e w2 ⟨rfl, m, rfl⟩
          have hB2 : Blk (wr.drewN m) w1.heap.size .u32 (wsF yk 13 non i) := hB
          have B2 := hB2.store p4 lv
          rw [WS.out] at B2
          have N2 := (below_drewN hN m).trans ((Only.setCell (wr.drewN m) w1.heap.size p4 (.int .u32 lv)).below (Nat.le_refl _))
          clear HC WS hB hB2 hN
          go_wp2
          go_roundw
          case rel => exact ⟨i + 1, by omega, by go_num, B2, N2⟩
          case measure => simp [intOf]; omega
        · obtain rfl : i = 3 := by omega
          rw [show ((3 : Nat) : Int) = 3 from rfl]
          rw [SWH.out] at hB
          have sww : Ws ((nsW key non).set 12 ct) := (nsW_ws hb hb').set 12 ⟨h0, h1⟩
          have swl : ((nsW key non).set 12 ct).length = 16 := by rw [List.length_set]; exact nsW_len key non
          clear SWH hr hr' hb hb' HL HL' HK HN YL
          obtain ⟨sw, hsw⟩ : ∃ s, s = (nsW key non).set 12 ct := ⟨_, rfl⟩
          have OUT : Hid (∀ k, k = 16 → fill (stF ((nsW key non).set 12 ct) (rds rn ((nsW key non).set 12 ct))) 64 = oL sw (rds rn sw) k) := fun k hk => by
            rw [oL_fill, hsw, hk]
          rw [← hsw] at hB sww swl
          have SWL := hide swl
          clear hsw swl
          have RG := (Seg.blk hB).range
          have L : Hid ((sw.map (Value.int .u32)).length = 16) := by show _ = _; rw [List.length_map]; exact SWL.out
          have O := one_ints .u32 sw
          have n4 : Below wr.heap.size wr (wr.alloc (.cells #[.int .u32 0, .int .u32 0, .int .u32 0, .int .u32 0, .int .u32 0, .int .u32 0, .int .u32 0, .int .u32 0, .int .u32 0, .int .u32 0, .int .u32 0, .int .u32 0, .int .u32 0, .int .u32 0, .int .u32 0, .int .u32 0] 119)) := (Below.refl _ _).alloc (Nat.le_refl _) _
          have B4 := blk_z16 wr 119
          obtain ⟨t4, H4⟩ := B4
          have SR := blk_setRow (zs := sw) ⟨t4, H4⟩
          have OR := only_setRow (wr.alloc (.cells #[.int .u32 0, .int .u32 0, .int .u32 0, .int .u32 0, .int .u32 0, .int .u32 0, .int .u32 0, .int .u32 0, .int .u32 0, .int .u32 0, .int .u32 0, .int .u32 0, .int .u32 0, .int .u32 0, .int .u32 0, .int .u32 0] 119)) wr.heap.size (sw.map (Value.int .u32)).toArray
          have hB' := (hB.up n4).of_block (OR.block w1.heap.size (by have := hB.lt; omega))
          have N4 := (hN.trans (n4.mono hN.size)).trans (OR.below (B := w1.heap.size) hN.size)
          have qq := hB.lt
          obtain ⟨vy, hvy⟩ : ∃ v, v = sw.map (Value.int .u32) := ⟨_, rfl⟩
          rw [← hvy] at RG L O SR OR hB' N4
          clear hvy hB hN n4
          go_wp2_with (first
            | (refine wpList_load_mid rfl 119 (.tmp 7) rfl w1.heap.size 0 rfl vy (.array 16 118) RG und16 rfl (by rw [L.out]; exact info16) ?_)
            | (refine wpList_store_row rfl 119 (.tmp 10) (.tmp 51) rfl wr.heap.size vy.toArray rfl rfl t4 _ H4 (by rw [List.size_toArray, L.out]; exact info16) (by rw [List.size_toArray, List.size_toArray, L.out]; rfl) O ?_))
          have zz := OR.size
          generalize wr.heap.size = q2 at *
          generalize (wr.alloc (.cells #[.int .u32 0, .int .u32 0, .int .u32 0, .int .u32 0, .int .u32 0, .int .u32 0, .int .u32 0, .int .u32 0, .int .u32 0, .int .u32 0, .int .u32 0, .int .u32 0, .int .u32 0, .int .u32 0, .int .u32 0, .int .u32 0] 119)).setRow q2 vy.toArray = wd at *
          clear H4 OR RG L O zz
          go_loopw [11] (fun v wr => ∃ (r : Nat), r ≤ 10 ∧ v = .int .i64 r ∧ Blk wr w1.heap.size .u32 sw ∧ Blk wr q2 .u32 (rds r sw) ∧ Below w1.heap.size w1 wr) (fun v _ => 10 - (intOf v).toNat)
          case atStart => exact ⟨0, Nat.zero_le _, rfl, hB', SR, N4⟩
          case round =>
            obtain ⟨r, hr10, rfl, hS, hR, hN⟩ := hrel
            clear hB' SR N4
            by_cases rlt : r < 10
            · have yl : (rds r sw).length = 16 := (rds_len sw r).trans SWL.out
              have yw := rds_ws sww r
              have r10 : (r : Int) < 10 := by omega
              have DB : Hid (∀ z, z = dbl (rds r sw) → z = rds (r + 1) sw) := fun z h => h
              generalize rds r sw = y0 at *
              have YL := hide yl
              clear yl
              go_wp2
              go_loopw [12] (fun v wr => ∃ (i : Nat), i ≤ 4 ∧ v = .int .i64 i ∧ Blk wr w1.heap.size .u32 sw ∧ Blk wr q2 .u32 (clA y0 i) ∧ Below w1.heap.size w1 wr) (fun v _ => 4 - (intOf v).toNat)
              case atStart => exact ⟨0, Nat.zero_le _, rfl, hS, hR, hN⟩
              case round =>
                obtain ⟨i, hi4, rfl, gS, gR, gN⟩ := hrel
                clear hS hR hN
                by_cases ilt : i < 4
                · have QC := fun W => hide (l8Quarter_any W (clA y0 i) (clA_ws yw i) ((clA_len y0 i).trans YL.out) i (4 + i) (8 + i) (12 + i) (by omega) (by omega) (by omega) (by omega) ⟨by omega, by omega, by omega, by omega, by omega, by omega⟩)
                  have CA : Hid (qrL (clA y0 i) i (4 + i) (8 + i) (12 + i) = clA y0 (i + 1)) := rfl
                  simp only [CA.out] at QC
                  have RG := (Seg.blk gR).range
                  have L : Hid (((clA y0 i).map (Value.int .u32)).length = 16) := by show _ = _; rw [List.length_map, clA_len]; exact YL.out
                  have LO : Hid (((clA y0 i).map (Value.int .u32)).length = 16) := L
                  have L2 : Hid (((clA y0 (i + 1)).map (Value.int .u32)).length = 16) := by show _ = _; rw [List.length_map, clA_len]; exact YL.out
                  have O2 := one_ints .u32 (clA y0 (i + 1))
                  have V1 : Hid (ag .u32 (clA y0 i) = Value.agg ((clA y0 i).map (Value.int .u32)).toArray) := rfl
                  have V2 : Hid (ag .u32 (clA y0 (i + 1)) = Value.agg ((clA y0 (i + 1)).map (Value.int .u32)).toArray) := rfl
                  simp only [V1.out, V2.out] at QC
                  obtain ⟨v1, hv1⟩ : ∃ v, v = (clA y0 i).map (Value.int .u32) := ⟨_, rfl⟩
                  obtain ⟨v2, hv2⟩ : ∃ v, v = (clA y0 (i + 1)).map (Value.int .u32) := ⟨_, rfl⟩
                  simp only [← hv1, ← hv2] at QC
                  rw [← hv1] at RG L
                  rw [← hv2] at L2 O2
                  have HV2 := hide hv2
                  clear hv1 hv2 V1 V2 CA
                  have d1 : (4 : Int) + (i : Int) = ((4 + i : Nat) : Int) := by omega
                  have d2 : (8 : Int) + (i : Int) = ((8 + i : Nat) : Int) := by omega
                  have d3 : (12 : Int) + (i : Int) = ((12 + i : Nat) : Int) := by omega
                  have i4 : (i : Int) < 4 := by omega
                  generalize 4 + i = x2 at *
                  generalize 8 + i = x3 at *
                  generalize 12 + i = x4 at *
                  go_wp2_with (refine wpList_load_mid rfl 119 (.tmp 10) rfl q2 0 rfl v1 (.array 16 118) RG und16 rfl (by rw [L.out]; exact info16) ?_)
                  refine (QC wr).out.mono ?_
                  rintro e w3 ⟨rfl, n3⟩
                  obtain ⟨t5, H5⟩ := gR.up n3
                  have SR := blk_setRow (zs := clA y0 (i + 1)) ⟨t5, H5⟩
                  rw [← HV2.out] at SR
                  have OR := only_setRow w3 q2 v2.toArray
                  have S3 := (gS.up n3).of_block (OR.block w1.heap.size (by omega))
                  have N3 := (gN.trans (n3.mono gN.size)).trans (OR.below (B := w1.heap.size) (by omega))
                  clear QC RG gS gR gN n3 OR
                  go_wp2_with (refine wpList_store_row rfl 119 (.tmp 10) (.tmp 68) rfl q2 v2.toArray rfl rfl t5 _ H5 (by rw [List.size_toArray, L2.out]; exact info16) (by have a1 := L2.out; have a2 := LO.out; simp only [List.size_toArray]; omega) O2 ?_)
                  go_roundw
                  case rel => exact ⟨i + 1, by omega, by go_num, S3, SR, N3⟩
                  case measure => simp [intOf]; omega
                · obtain rfl : i = 4 := by omega
                  try rw [show ((4 : Nat) : Int) = 4 from rfl]
                  have yw1 := clA_ws yw 4
                  have YL1 := hide ((clA_len y0 4).trans YL.out)
                  have EY : Hid (∃ y, y = clA y0 4) := ⟨_, rfl⟩
                  obtain ⟨y1, hy1⟩ := EY.out
                  rw [← hy1] at gR yw1 YL1
                  have EY := hide hy1
                  clear hy1
                  go_wp2
                  go_loopw [13] (fun v wr => ∃ (i : Nat), i ≤ 4 ∧ v = .int .i64 i ∧ Blk wr w1.heap.size .u32 sw ∧ Blk wr q2 .u32 (clB y1 i) ∧ Below w1.heap.size w1 wr) (fun v _ => 4 - (intOf v).toNat)
                  case atStart => exact ⟨0, Nat.zero_le _, rfl, gS, gR, gN⟩
                  case round =>
                    obtain ⟨i, hi4, rfl, gS, gR, gN⟩ := hrel
                    by_cases ilt : i < 4
                    · have QC := fun W => hide (l8Quarter_any W (clB y1 i) (clB_ws yw1 i) ((clB_len y1 i).trans YL1.out) i (4 + (i + 1) % 4) (8 + (i + 2) % 4) (12 + (i + 3) % 4) (by omega) (by omega) (by omega) (by omega) ⟨by omega, by omega, by omega, by omega, by omega, by omega⟩)
                      have CA : Hid (qrL (clB y1 i) i (4 + (i + 1) % 4) (8 + (i + 2) % 4) (12 + (i + 3) % 4) = clB y1 (i + 1)) := rfl
                      simp only [CA.out] at QC
                      have RG := (Seg.blk gR).range
                      have L : Hid (((clB y1 i).map (Value.int .u32)).length = 16) := by show _ = _; rw [List.length_map, clB_len]; exact YL1.out
                      have LO : Hid (((clB y1 i).map (Value.int .u32)).length = 16) := L
                      have L2 : Hid (((clB y1 (i + 1)).map (Value.int .u32)).length = 16) := by show _ = _; rw [List.length_map, clB_len]; exact YL1.out
                      have O2 := one_ints .u32 (clB y1 (i + 1))
                      have V1 : Hid (ag .u32 (clB y1 i) = Value.agg ((clB y1 i).map (Value.int .u32)).toArray) := rfl
                      have V2 : Hid (ag .u32 (clB y1 (i + 1)) = Value.agg ((clB y1 (i + 1)).map (Value.int .u32)).toArray) := rfl
                      simp only [V1.out, V2.out] at QC
                      obtain ⟨v1, hv1⟩ : ∃ v, v = (clB y1 i).map (Value.int .u32) := ⟨_, rfl⟩
                      obtain ⟨v2, hv2⟩ : ∃ v, v = (clB y1 (i + 1)).map (Value.int .u32) := ⟨_, rfl⟩
                      simp only [← hv1, ← hv2] at QC
                      rw [← hv1] at RG L
                      rw [← hv2] at L2 O2
                      have HV2 := hide hv2
                      clear hv1 hv2 V1 V2 CA
                      obtain ⟨a1, ha1⟩ : ∃ a, a = (i + 1) % 4 := ⟨_, rfl⟩
                      obtain ⟨a2, ha2⟩ : ∃ a, a = (i + 2) % 4 := ⟨_, rfl⟩
                      obtain ⟨a3, ha3⟩ : ∃ a, a = (i + 3) % 4 := ⟨_, rfl⟩
                      simp only [← ha1, ← ha2, ← ha3] at QC
                      have m1 : ((i : Int) + 1) % 4 = (a1 : Int) := by omega
                      have m2 : ((i : Int) + 2) % 4 = (a2 : Int) := by omega
                      have m3 : ((i : Int) + 3) % 4 = (a3 : Int) := by omega
                      have d1 : (4 : Int) + (a1 : Int) = ((4 + a1 : Nat) : Int) := by omega
                      have d2 : (8 : Int) + (a2 : Int) = ((8 + a2 : Nat) : Int) := by omega
                      have d3 : (12 : Int) + (a3 : Int) = ((12 + a3 : Nat) : Int) := by omega
                      have i4 : (i : Int) < 4 := by omega
                      have s1 : 4 + a1 ≤ 15 := by omega
                      have s2 : 8 + a2 ≤ 15 := by omega
                      have s3 : 12 + a3 ≤ 15 := by omega
                      clear ha1 ha2 ha3
                      generalize 4 + a1 = x2 at *
                      generalize 8 + a2 = x3 at *
                      generalize 12 + a3 = x4 at *
                      go_wp2_with (refine wpList_load_mid rfl 119 (.tmp 10) rfl q2 0 rfl v1 (.array 16 118) RG und16 rfl (by rw [L.out]; exact info16) ?_)
                      refine (QC wr).out.mono ?_
                      rintro e w3 ⟨rfl, n3⟩
                      obtain ⟨t5, H5⟩ := gR.up n3
                      have SR := blk_setRow (zs := clB y1 (i + 1)) ⟨t5, H5⟩
                      rw [← HV2.out] at SR
                      have OR := only_setRow w3 q2 v2.toArray
                      have S3 := (gS.up n3).of_block (OR.block w1.heap.size (by omega))
                      have N3 := (gN.trans (n3.mono gN.size)).trans (OR.below (B := w1.heap.size) (by omega))
                      clear QC RG gS gR gN n3 OR
                      go_wp2_with (refine wpList_store_row rfl 119 (.tmp 10) (.tmp 87) rfl q2 v2.toArray rfl rfl t5 _ H5 (by rw [List.size_toArray, L2.out]; exact info16) (by have a1 := L2.out; have a2 := LO.out; simp only [List.size_toArray]; omega) O2 ?_)
                      go_roundw
                      case rel => exact ⟨i + 1, by omega, by go_num, S3, SR, N3⟩
                      case measure => simp [intOf]; omega
                    · obtain rfl : i = 4 := by omega
                      try rw [show ((4 : Nat) : Int) = 4 from rfl]
                      have D8 := DB.out _ (show clB y1 4 = dbl y0 by rw [EY.out]; exact dbl_cl y0)
                      rw [D8] at gR
                      clear D8
                      go_wp2
                      go_roundw
                      case rel => exact ⟨r + 1, by omega, by go_num, gS, gR, gN⟩
                      case measure => simp [intOf]; omega
            · obtain rfl : r = rn := by have := HRN.out; omega
              have RL := hide ((rds_len sw r).trans SWL.out)
              generalize rds r sw = rs at *
              have n5 : Below wr.heap.size wr (wr.alloc (.cells #[] 5)) := (Below.refl _ _).alloc (Nat.le_refl _) _
              have R5 := RowB.lit0 wr
              have ql := hR.lt
              have z5 : (wr.alloc (.cells #[] 5)).heap.size = wr.heap.size + 1 := by simp
              go_wp2
              have S5 := hS.up n5
              have T5 := hR.up n5
              have N5 := hN.trans (n5.mono hN.size)
              have R5 := R5.base (base' := q2 + 1) (by omega)
              generalize wr.alloc (.cells #[] 5) = wf at *
              clear hS hR hN n5
              go_loopw [14, 15] (fun v u wr => ∃ (n : Nat), n ≤ 16 ∧ u = .int .i64 n ∧ RowB wr (q2 + 1) v (oL sw rs n) ∧ Blk wr w1.heap.size .u32 sw ∧ Blk wr q2 .u32 rs ∧ q2 + 1 ≤ wr.heap.size ∧ Below w1.heap.size w1 wr) (fun _ u _ => 16 - (intOf u).toNat)
              case atStart => exact ⟨0, Nat.zero_le _, rfl, R5, S5, T5, by omega, N5⟩
              case round =>
                obtain ⟨n, hn, rfl, hV, hS, hR, hz, hN⟩ := hrel
                clear R5 S5 T5 N5 z5
                by_cases nlt : n < 16
                · have c1 := hS.cell (i := n) (by rw [SWL.out]; exact nlt)
                  have c2 := hR.cell (i := n) (by rw [RL.out]; exact nlt)
                  have n16 : (n : Int) < 16 := by omega
                  have OE : Hid (oL sw rs (n + 1) = oL sw rs n ++ oW ((rs.getD n 0 + sw.getD n 0) % 4294967296)) := rfl
                  have OLn := hide (oL_len sw rs n)
                  generalize sw.getD n 0 = s1 at *
                  generalize rs.getD n 0 = s2 at *
                  go_wp2_with fail
                  go_quiet (fail)
                  obtain ⟨v, hv⟩ : ∃ v, v = (s2 + s1) % 4294967296 := ⟨_, rfl⟩
                  simp only [← hv] at OE ⊢
                  have v0 : 0 ≤ v := by omega
                  have v1 : v < 4294967296 := by omega
                  have hV' : RowB (wr.drewN nq) (q2 + 1) _ (oL sw rs n) := hV
                  have hS' : Blk (wr.drewN nq) w1.heap.size .u32 sw := hS
                  have hR' : Blk (wr.drewN nq) q2 .u32 rs := hR
                  have hN' := below_drewN hN nq
                  have hz' : q2 + 1 ≤ (wr.drewN nq).heap.size := hz
                  clear hv c1 c2 hV hS hR hN hz
                  generalize wr.drewN nq = ws at *
                  have n6 : Below ws.heap.size ws (ws.alloc (.cells #[.int .u8 (v % 256), .int .u8 (v / 256 % 256), .int .u8 (v / 65536 % 256), .int .u8 (v / 16777216)] 5)) := (Below.refl _ _).alloc (Nat.le_refl _) _
                  have B6 : Blk (ws.alloc (.cells #[.int .u8 (v % 256), .int .u8 (v / 256 % 256), .int .u8 (v / 65536 % 256), .int .u8 (v / 16777216)] 5)) ws.heap.size .u8 (oW v) := blk_alloc ws .u8 5 (oW v)
                  have hap := append_any (P := Tryz.prog) (ws.alloc (.cells #[.int .u8 (v % 256), .int .u8 (v / 256 % 256), .int .u8 (v / 65536 % 256), .int .u8 (v / 16777216)] 5)) 22 i0 Tryz.underlying22 hi hz0 hz1 hz2 (q2 + 1) (q2 + 1) _ _ (hV'.up n6) _ _ 4 (oW v) B6.own0.rd (by simp) (by rw [OLn.out]; show _ + 4 ≤ _; omega) (Nat.le_refl _) (Nat.le_trans hz' n6.size)
                  rw [show (oW v).length = 4 from rfl] at hap
                  obtain ⟨v', w7, hap, o7, n7⟩ := hap
                  have S7 := (hS'.up n6).of_block (n7.block w1.heap.size (by omega))
                  have R7 := (hR'.up n6).of_block (n7.block q2 (by omega))
                  have N7 := (hN'.trans (n6.mono hN'.size)).trans (n7.mono (by omega))
                  have z7 := Nat.le_trans (Nat.le_trans hz' n6.size) n7.size
                  rw [← OE.out] at o7
                  clear B6 hV' hS' hR' hN' n6 n7 OE hz'
                  go_wp2_with (at_builtin; refine Lib.wpList_append_run _ rfl _ _ 22 22 rfl _ _ rfl rfl _ _ hap ?_)
                  clear hap
                  go_roundw
                  case rel => exact ⟨n + 1, by omega, by go_num, o7, S7, R7, z7, N7⟩
                  case measure => simp [intOf]; omega
                · have H16 := hide (show n = 16 by omega)
                  have nn : ¬ ((n : Int) < 16) := by omega
                  obtain ⟨a3, c3, g3, rfl, o3, p3, q3, r3⟩ := hV.own
                  go_wp2
                  go_ret
                  rw [OUT.out n H16.out]
                  exact ⟨⟨a3, c3, g3, rfl, o3, p3, q3, by omega⟩, hN⟩
theorem specBlock_any (w : World) (g : Nat) (a : Option Addr) (c : Nat) (key : List Int) (hr : Rd w g a .u8 key) (hb : Byt key) (hc : key.length ≤ c) (ct : Int) (g' : Nat) (a' : Option Addr) (c' : Nat) (non : List Int) (hr' : Rd w g' a' .u8 non) (hb' : Byt non) (hc' : non.length ≤ c') :
    Calls Tryz.prog 84 #[.slice a key.length c, .int .i64 ct, .slice a' non.length c'] w fun e w' => NewRow w.heap.size w' e .u8 (sbA key ct non) ∧ Below w.heap.size w w' := by
  by_cases hf : fitB key ct non = true
  · have h := hf
    unfold fitB at h
    simp only [Bool.and_eq_true, decide_eq_true_eq] at h
    have RS : sbA key ct non = fill (stF ((nsW key non).set 12 ct) (rds 10 ((nsW key non).set 12 ct))) 64 := by unfold sbA; rw [if_pos hf]; unfold strB stB; rfl
    rw [RS]
    exact specBlock_core w g a c key hr hb h.1.1 hc ct h.2.1 (by omega) g' a' c' non hr' hb' h.1.2 hc' hf 10 rfl
  · have RS : Hid (sbA key ct non = []) := by show _ = _; unfold sbA; rw [if_neg hf]
    rw [RS.out]
    have FT := fits_any w a a' c c' key non ct
    rw [show fitB key ct non = false by simpa using hf] at FT
    clear hf RS
    go_enter Tryz.func84, Tryz.ntmps84
    go_wp2_with fail
    refine FT.mono ?_
    rintro e w1 ⟨rfl, rfl⟩
    go_wp2
    go_ret
    exact ⟨newRow_e _ _, (Below.refl _ _).alloc (Nat.le_refl _) _⟩
end Go.Proofs.YtbdecibgejmelaaGreatDoor

/-
  The model's StreamXor (written by gens/spe.py).
-/
namespace Go.Proofs.YtbdecibgejmelaaGreatDoor
set_option maxRecDepth 100000
open Go Go.RowKit

theorem step_append_ex {P : Program} {ops : Array Oper} {o : Oper} {a : Act} {w : World} {K : Act → World → Prop} {Q : Exit → Act → World → Prop} {E : Prop} (hg : o.guard = none) (s x : Operand) (t tn : TypeId)
    (ho : o.op = .call { callee := .builtin .append, args := #[s, x], argTypes := #[t, tn] }) (vs vx : Value) (hs : a.eval s = vs) (hx : a.eval x = vx) (R : Value → World → Prop)
    (H : ∃ v' w', (Builtin.append_ #[t, tn] o.type #[vs, vx]).run P w = .ok v' w' ∧ R v' w') (hK : ∀ v' w', R v' w' → K (a.put o.dst v') w') :
    if Region.wanted o (yielded ops a.tmps) = true then Oper.wp P o a w K Q else E := by
  have hw : Region.wanted o (yielded ops a.tmps) = true := by simp [Region.wanted, hg]
  rw [if_pos hw]
  obtain ⟨v', w', hr, hR⟩ := H
  exact Lib.wp_append_run w s x t tn ho vs vx hs hx v' w' hr (hK v' w' hR)
/-- An append, that it turns its own row alone, and where the new one lies. -/
theorem append_anyH {P : Program} (w : World) (ty : TypeId) (i : TypeInfo) (ht : P.underlying 22 = some (.slice 5)) (hi : P.info? 5 = some i) (hz : i.zero = some (.int .u8 0)) (hsize : i.size = 1) (hby : i.bytes = 1)
    (base : Nat) (v : Value) (xs : List Int) (hown : RowB w base v xs) (g o c : Nat) (us : List Int) (hr : Rd w g (some ⟨g, o, none⟩) .u8 us) (hl : xs.length + us.length ≤ 1099511627776) (hbase : base ≤ w.heap.size) :
    ∃ v' w', (Builtin.append_ #[22, 22] ty #[v, .slice (some ⟨g, o, none⟩) us.length c]).run P w = .ok v' w' ∧ RowB w' base v' (xs ++ us) ∧ w.grownBy w' v.ownBlock ∧ (v'.ownBlock = v.ownBlock ∨ v'.ownBlock = some w.heap.size) := by
  have hcell : ∀ j u, (us.map (Value.int .u8))[j]? = some u → w.cell? ((⟨g, o, none⟩ : Addr).add j) = some u := by
    intro j u hj
    have hjl : j < us.length := by
      have := (List.getElem?_eq_some_iff.1 hj).1
      simpa using this
    obtain ⟨off, ha, hcc⟩ := hr (by omega)
    simp only [Option.some.injEq] at ha
    rw [ha, Addr.add_mid, hcc j hjl]
    simpa [hjl] using hj
  have hone : ∀ u ∈ us.map (Value.int .u8), u.oneCell' = true := by
    intro u hu
    obtain ⟨x, _, rfl⟩ := List.mem_map.1 hu
    rfl
  obtain ⟨v', w', h1, h2, h3, _, h5⟩ := run_append_own_at (P := P) w base 22 ty 5 i (.int .u8 0) 1 1 ht hi hz hsize hby rfl (by decide) v xs.length (xs.map (Value.int .u8)) hown ⟨g, o, none⟩ us.length c (us.map (Value.int .u8)) (by simp) hcell hone (by unfold maxLen; omega) (by omega) hbase
  refine ⟨v', w', h1, ?_, h3, h5⟩
  show w'.ownsRow base 5 1 v' (xs ++ us).length ((xs ++ us).map (Value.int .u8))
  rw [List.length_append, List.map_append]
  exact h2
/-- A byte with the stream laid over it. -/
def sxF (key : List Int) (c : Int) (non data : List Int) (i : Nat) : Int := xr (data.getD i 0) ((strB key (c + ((i / 64 : Nat) : Int)) non).getD (i % 64) 0)
theorem sx_fill (key : List Int) (c : Int) (non data : List Int) : xoG (nsW key non) c data ((data.length + 63) / 64) = fill (sxF key c non data) data.length := by
  refine eq_of_getD (by rw [xoG_len, fill_len]) (fun i hi => ?_)
  rw [xoG_len] at hi
  rw [xoG_get _ _ _ _ hi, if_pos (by omega), fill_get _ _ _ hi]
  rfl
theorem sbA_fit {key : List Int} {c c' : Int} {non : List Int} (h : fitB key c non = true) (h0 : 0 ≤ c') (h1 : c' ≤ 4294967295) : sbA key c' non = strB key c' non := by
  unfold sbA
  rw [if_pos]
  unfold fitB at h ⊢
  simp only [Bool.and_eq_true, decide_eq_true_eq] at h ⊢
  exact ⟨h.1, h0, h1⟩
set_option maxRecDepth 100000 in
set_option maxHeartbeats 8000000 in
theorem specXor_core (w : World) (g : Nat) (a : Option Addr) (c : Nat) (key : List Int) (hr : Rd w g a .u8 key) (hb : Byt key) (hc : key.length ≤ c) (ct : Int) (h0 : 0 ≤ ct) (h1 : ct ≤ 4294967295) (g' : Nat) (a' : Option Addr) (c' : Nat) (non : List Int) (hr' : Rd w g' a' .u8 non) (hb' : Byt non) (hc' : non.length ≤ c')
    (g2 : Nat) (a2 : Option Addr) (c2 : Nat) (data : List Int) (hr2 : Rd w g2 a2 .u8 data) (hn : data.length ≤ 4194304) (hf : fitB key ct non = true) (h3 : (data.length : Int) ≤ (4294967296 - ct) * 64) :
    Calls Tryz.prog 63 #[.slice a key.length c, .int .i64 ct, .slice a' non.length c', .slice a2 data.length c2] w fun e w' => NewRow w.heap.size w' e .u8 (fill (sxF key ct non data) data.length) ∧ Below w.heap.size w w' := by
  obtain ⟨i0, hi, hz0, hz1, hz2⟩ := info_parts Tryz.info5
  have FT := fits_any w a a' c c' key non ct
  rw [hf] at FT
  have SB := fun W (k : Nat) (n : Below w.heap.size w W) => hide (specBlock_any W g a c key (hr.up n) hb hc (ct + ((k / 64 : Nat) : Int)) g' a' c' non (hr'.up n) hb' hc')
  have SA : ∀ k, k < data.length → Hid (sbA key (ct + ((k / 64 : Nat) : Int)) non = strB key (ct + ((k / 64 : Nat) : Int)) non) := fun k hk => sbA_fit hf (by omega) (by omega)
  have BLl : ∀ c, (strB key c non).length = 64 := fun c => stB_len _
  have FS : ∀ i, fill (sxF key ct non data) (i + 1) = fill (sxF key ct non data) i ++ [bits BinOp.xor IntKind.u8 (data.getD i 0) ((strB key (ct + ((i / 64 : Nat) : Int)) non).getD (i % 64) 0)] := fun i => fill_succ _ _
  have FLn : ∀ i, (fill (sxF key ct non data) i).length = i := fun i => fill_len _ _
  have q1 : decide ((4294967295 : Int) < ct + ((data.length : Int) + 63) / 64 - 1) = false := by simp; omega
  have dn : (data.length : Int) ≤ 4194304 := by omega
  have hq1 := hide q1
  clear hf hr hr' hb hb' h3
  generalize sxF key ct non data = f at *
  generalize hlen : data.length = n at *
  have HN := hide hlen
  have cb0 : (0 : Int) ≤ ((n : Int) + 63) / 64 := by omega
  have cb1 : ((n : Int) + 63) / 64 ≤ 65537 := by omega
  go_enter Tryz.func63, Tryz.ntmps63
  go_wp2_with fail
  refine FT.mono ?_
  rintro e w1 ⟨rfl, rfl⟩
  clear FT
  have n1 : Below w1.heap.size w1 (w1.alloc (.cells #[] 5)) := (Below.refl _ _).alloc (Nat.le_refl _) _
  have R1 := RowB.lit0 w1
  have z1 : (w1.alloc (.cells #[] 5)).heap.size = w1.heap.size + 1 := by simp
  have n2 : Below (w1.alloc (.cells #[] 5)).heap.size (w1.alloc (.cells #[] 5)) ((w1.alloc (.cells #[] 5)).alloc (.cells #[] 5)) := (Below.refl _ _).alloc (Nat.le_refl _) _
  go_wp2
  have R2 := R1.up n2
  have N2 := nxt n1 n2
  generalize (w1.alloc (.cells #[] 5)).alloc (.cells #[] 5) = wa at *
  clear n1 n2 R1 z1
  go_loopw [9, 10, 11] (fun v b u wr => ∃ (i : Nat), i ≤ n ∧ u = .int .i64 i ∧ RowB wr w1.heap.size v (fill f i) ∧ (i % 64 ≠ 0 → ∃ (bo bc bg : Nat), b = .slice (some ⟨bg, bo, none⟩) 64 bc ∧ Rd wr bg (some ⟨bg, bo, none⟩) .u8 (strB key (ct + ((i / 64 : Nat) : Int)) non) ∧ v.ownBlock ≠ some bg ∧ bg < wr.heap.size) ∧ Below w1.heap.size w1 wr) (fun _ _ u _ => n - (intOf u).toNat)
  case atStart => exact ⟨0, Nat.zero_le _, rfl, R2, fun h => absurd rfl h, N2⟩
  case round =>
    obtain ⟨i, hin, rfl, hV, hBk, hN⟩ := hrel
    clear R2 N2
    by_cases hlt : i < n
    · have iI : (i : Int) < (n : Int) := by omega
      by_cases h64 : i % 64 = 0
      · have e64 : (i : Int) % 64 = 0 := by omega
        have SBi := SB wr i hN
        rw [(SA i hlt).out] at SBi
        have BL := hide (BLl (ct + ((i / 64 : Nat) : Int)))
        obtain ⟨Bk, hBk'⟩ : ∃ b, b = strB key (ct + ((i / 64 : Nat) : Int)) non := ⟨_, rfl⟩
        rw [← hBk'] at SBi BL
        obtain ⟨kq, hkq⟩ : ∃ k, k = i / 64 := ⟨_, rfl⟩
        rw [← hkq] at SBi
        have d64 : (i : Int) / 64 = (kq : Int) := by omega
        have b64 : (kq : Int) ≤ 65537 := by omega
        have b65 : 0 ≤ ct + (kq : Int) := by omega
        have b66 : ct + (kq : Int) ≤ 4295032833 := by omega
        clear hkq
        have HBk := hide hBk'.symm
        clear hBk' hBk SB SA
        go_wp2_with fail
        refine SBi.out.mono ?_
        rintro e w3 ⟨⟨ba, bc, bg, rfl, bO, bp, bq, br⟩, n3⟩
        obtain ⟨bo, eb, -⟩ := bO.rd (by rw [BL.out]; decide)
        subst eb
        have bR := bO.rd
        rw [BL.out]
        have sV := hV.up n3
        have sN := nxt hN n3
        have bl := bR.lt (by rw [BL.out]; decide)
        have bN : Value.ownBlock u9 ≠ some bg := fun e => by have := (World.ownsRow.lt hV bg e).2; omega
        clear SBi bO bp bq hV hN n3
        go_wp2_with fail
        clear e64 d64
        obtain ⟨im, him⟩ : ∃ m, m = i % 64 := ⟨_, rfl⟩
        have m64 : (i : Int) % 64 = (im : Int) := by omega
        have l64 : (im : Int) < 64 := by omega
        have k64 : (0 : Int) ≤ (im : Int) := by omega
        have mt : Int.tmod (i : Int) 64 = (im : Int) := by rw [Int.tmod_eq_emod_of_nonneg (by omega)]; exact m64
        have i00 : (0 : Int) ≤ (i : Int) := by omega
        have im64 : im < 64 := by omega
        have FE : Hid (fill f (i + 1) = fill f i ++ [bits BinOp.xor IntKind.u8 (data.getD i 0) (Bk.getD im 0)]) := by show _ = _; rw [FS i, HBk.out, him]
        obtain ⟨o2, ea2, hc2⟩ := hr2 (by rw [HN.out]; omega)
        subst ea2
        have gl2 := hr2.lt (by rw [HN.out]; omega)
        have CD : ∀ W, Below w1.heap.size w1 W → W.cell? ⟨g2, o2 + i, none⟩ = some (.int .u8 (data.getD i 0)) := fun W h => (World.cell?_of_block (a := ⟨g2, o2 + i, none⟩) (h.block g2 gl2)).trans (hc2 i (by rw [HN.out]; exact hlt))
        have CB : ∀ W, Rd W bg (some ⟨bg, bo, none⟩) .u8 Bk → W.cell? ⟨bg, bo + im, none⟩ = some (.int .u8 (Bk.getD im 0)) := fun W h => by
          obtain ⟨o3, e3, hc3⟩ := h (by rw [BL.out]; decide)
          simp only [Option.some.injEq, Addr.mk.injEq, true_and, and_true] at e3
          subst e3
          exact hc3 im (by rw [BL.out]; exact im64)
        clear him hc2
        generalize data.getD i 0 = dv at *
        generalize Bk.getD im 0 = bv at *
        have cd0 := CD w3 sN
        have cb0 := CB w3 bR
        have A0 : Hid (∃ v' w7, (Builtin.append_ #[22, 22] 22 #[u9, .slice (some ⟨w3.heap.size, 0, none⟩) 1 1]).run Tryz.prog (w3.drew.alloc (.cells #[.int .u8 (bits BinOp.xor IntKind.u8 dv bv)] 5)) = .ok v' w7 ∧ (RowB w7 w1.heap.size v' (fill f (i + 1)) ∧ Below w1.heap.size w1 w7 ∧ Rd w7 bg (some ⟨bg, bo, none⟩) .u8 Bk ∧ v'.ownBlock ≠ some bg ∧ bg < w7.heap.size ∧ (w7.cell? ⟨g2, o2 + i, none⟩ = some (.int .u8 dv) ∧ w7.cell? ⟨bg, bo + im, none⟩ = some (.int .u8 bv)))) := by
          have n6 : Below w3.heap.size w3 (w3.drew.alloc (.cells #[.int .u8 (bits BinOp.xor IntKind.u8 dv bv)] 5)) := ((Below.refl _ _).drew).alloc (Nat.le_refl _) _
          have B6 : Blk (w3.drew.alloc (.cells #[.int .u8 (bits BinOp.xor IntKind.u8 dv bv)] 5)) w3.heap.size .u8 [bits BinOp.xor IntKind.u8 dv bv] := blk_lit1 w3.drew .u8 5 _
          have z6 : (w3.drew.alloc (.cells #[.int .u8 (bits BinOp.xor IntKind.u8 dv bv)] 5)).heap.size = w3.heap.size + 1 := by simp
          generalize w3.drew.alloc (.cells #[.int .u8 (bits BinOp.xor IntKind.u8 dv bv)] 5) = wz at *
          have sz := sN.size
          obtain ⟨v', w7, hap, o7, G7, W7⟩ := append_anyH (P := Tryz.prog) wz 22 i0 Tryz.underlying22 hi hz0 hz1 hz2 w1.heap.size _ _ (sV.up n6) w3.heap.size 0 1 [bits BinOp.xor IntKind.u8 dv bv] B6.own0.rd (by rw [FLn]; simp; omega) (by omega)
          have lo := fun k h => World.ownsRow.lt sV k h
          have N7 : Below w1.heap.size w1 w7 := (sN.trans (n6.mono sz)).trans ⟨G7.os, G7.tape, G7.output, G7.size, fun k hk => G7.block k (by omega) (fun e => by have := (lo k e.symm).1; omega)⟩
          have bR7 := (bR.up n6).of_block (G7.block bg (by omega) (fun e => bN e.symm))
          have s7 := G7.size
          refine ⟨v', w7, hap, by rw [FE.out]; exact o7, N7, bR7, ?_, by omega, CD _ N7, CB _ bR7⟩
          rcases W7 with h | h
          · rw [h]; exact bN
          · rw [h]; intro e; simp only [Option.some.injEq] at e; omega
        clear CD CB FE FS
        go_region_held3 (fun W => W.cell? ⟨g2, o2 + i, none⟩ = some (.int .u8 dv) ∧ W.cell? ⟨bg, bo + im, none⟩ = some (.int .u8 bv))
          (first | go_keep | exact S7)
          (first | (refine step_append_ex rfl (.tmp 46) (.tmp 57) 22 22 rfl _ (.slice (some ⟨w3.heap.size, 0, none⟩) 1 1) rfl rfl _ A0.out ?_; rintro v' w7 ⟨o7, N7, bR7, bN7, bl7, S7⟩) | fail)
        clear A0
        go_wp2
        go_roundw
        case rel => exact ⟨i + 1, by omega, by go_num, o7, fun h => ⟨bo, bc, bg, rfl, by rw [show (i + 1) / 64 = i / 64 by omega, HBk.out]; exact bR7, bN7, bl7⟩, N7⟩
        case measure => simp [intOf]; omega
      · obtain ⟨bo, bc, bg, rfl, bR, bN, bl⟩ := hBk h64
        have e64 : ¬ ((i : Int) % 64 = 0) := by omega
        have BL := hide (BLl (ct + ((i / 64 : Nat) : Int)))
        obtain ⟨Bk, hBk'⟩ : ∃ b, b = strB key (ct + ((i / 64 : Nat) : Int)) non := ⟨_, rfl⟩
        rw [← hBk'] at bR BL
        have HBk := hide hBk'.symm
        clear hBk' hBk SB SA
        have sV := hV
        have sN := hN
        clear hV hN
        go_wp2_with fail
        clear e64
        obtain ⟨im, him⟩ : ∃ m, m = i % 64 := ⟨_, rfl⟩
        have m64 : (i : Int) % 64 = (im : Int) := by omega
        have l64 : (im : Int) < 64 := by omega
        have k64 : (0 : Int) ≤ (im : Int) := by omega
        have mt : Int.tmod (i : Int) 64 = (im : Int) := by rw [Int.tmod_eq_emod_of_nonneg (by omega)]; exact m64
        have i00 : (0 : Int) ≤ (i : Int) := by omega
        have im64 : im < 64 := by omega
        have FE : Hid (fill f (i + 1) = fill f i ++ [bits BinOp.xor IntKind.u8 (data.getD i 0) (Bk.getD im 0)]) := by show _ = _; rw [FS i, HBk.out, him]
        obtain ⟨o2, ea2, hc2⟩ := hr2 (by rw [HN.out]; omega)
        subst ea2
        have gl2 := hr2.lt (by rw [HN.out]; omega)
        have CD : ∀ W, Below w1.heap.size w1 W → W.cell? ⟨g2, o2 + i, none⟩ = some (.int .u8 (data.getD i 0)) := fun W h => (World.cell?_of_block (a := ⟨g2, o2 + i, none⟩) (h.block g2 gl2)).trans (hc2 i (by rw [HN.out]; exact hlt))
        have CB : ∀ W, Rd W bg (some ⟨bg, bo, none⟩) .u8 Bk → W.cell? ⟨bg, bo + im, none⟩ = some (.int .u8 (Bk.getD im 0)) := fun W h => by
          obtain ⟨o3, e3, hc3⟩ := h (by rw [BL.out]; decide)
          simp only [Option.some.injEq, Addr.mk.injEq, true_and, and_true] at e3
          subst e3
          exact hc3 im (by rw [BL.out]; exact im64)
        clear him hc2
        generalize data.getD i 0 = dv at *
        generalize Bk.getD im 0 = bv at *
        have cd0 := CD wr sN
        have cb0 := CB wr bR
        have A0 : Hid (∃ v' w7, (Builtin.append_ #[22, 22] 22 #[u9, .slice (some ⟨wr.heap.size, 0, none⟩) 1 1]).run Tryz.prog (wr.drew.alloc (.cells #[.int .u8 (bits BinOp.xor IntKind.u8 dv bv)] 5)) = .ok v' w7 ∧ (RowB w7 w1.heap.size v' (fill f (i + 1)) ∧ Below w1.heap.size w1 w7 ∧ Rd w7 bg (some ⟨bg, bo, none⟩) .u8 Bk ∧ v'.ownBlock ≠ some bg ∧ bg < w7.heap.size ∧ (w7.cell? ⟨g2, o2 + i, none⟩ = some (.int .u8 dv) ∧ w7.cell? ⟨bg, bo + im, none⟩ = some (.int .u8 bv)))) := by
          have n6 : Below wr.heap.size wr (wr.drew.alloc (.cells #[.int .u8 (bits BinOp.xor IntKind.u8 dv bv)] 5)) := ((Below.refl _ _).drew).alloc (Nat.le_refl _) _
          have B6 : Blk (wr.drew.alloc (.cells #[.int .u8 (bits BinOp.xor IntKind.u8 dv bv)] 5)) wr.heap.size .u8 [bits BinOp.xor IntKind.u8 dv bv] := blk_lit1 wr.drew .u8 5 _
          have z6 : (wr.drew.alloc (.cells #[.int .u8 (bits BinOp.xor IntKind.u8 dv bv)] 5)).heap.size = wr.heap.size + 1 := by simp
          generalize wr.drew.alloc (.cells #[.int .u8 (bits BinOp.xor IntKind.u8 dv bv)] 5) = wz at *
          have sz := sN.size
          obtain ⟨v', w7, hap, o7, G7, W7⟩ := append_anyH (P := Tryz.prog) wz 22 i0 Tryz.underlying22 hi hz0 hz1 hz2 w1.heap.size _ _ (sV.up n6) wr.heap.size 0 1 [bits BinOp.xor IntKind.u8 dv bv] B6.own0.rd (by rw [FLn]; simp; omega) (by omega)
          have lo := fun k h => World.ownsRow.lt sV k h
          have N7 : Below w1.heap.size w1 w7 := (sN.trans (n6.mono sz)).trans ⟨G7.os, G7.tape, G7.output, G7.size, fun k hk => G7.block k (by omega) (fun e => by have := (lo k e.symm).1; omega)⟩
          have bR7 := (bR.up n6).of_block (G7.block bg (by omega) (fun e => bN e.symm))
          have s7 := G7.size
          refine ⟨v', w7, hap, by rw [FE.out]; exact o7, N7, bR7, ?_, by omega, CD _ N7, CB _ bR7⟩
          rcases W7 with h | h
          · rw [h]; exact bN
          · rw [h]; intro e; simp only [Option.some.injEq] at e; omega
        clear CD CB FE FS
        go_region_held3 (fun W => W.cell? ⟨g2, o2 + i, none⟩ = some (.int .u8 dv) ∧ W.cell? ⟨bg, bo + im, none⟩ = some (.int .u8 bv))
          (first | go_keep | exact S7)
          (first | (refine step_append_ex rfl (.tmp 46) (.tmp 57) 22 22 rfl _ (.slice (some ⟨wr.heap.size, 0, none⟩) 1 1) rfl rfl _ A0.out ?_; rintro v' w7 ⟨o7, N7, bR7, bN7, bl7, S7⟩) | fail)
        clear A0
        go_wp2
        go_roundw
        case rel => exact ⟨i + 1, by omega, by go_num, o7, fun h => ⟨bo, bc, bg, rfl, by rw [show (i + 1) / 64 = i / 64 by omega, HBk.out]; exact bR7, bN7, bl7⟩, N7⟩
        case measure => simp [intOf]; omega
    · obtain rfl : i = n := by omega
      obtain ⟨a3, c3, g3, rfl, o3, p3, q3, r3⟩ := hV.own
      have FL := hide (FLn i)
      go_wp2
      go_ret
      exact ⟨⟨a3, c3, g3, rfl, o3, p3, q3, r3⟩, hN⟩
set_option maxHeartbeats 1000000 in
theorem specXor_any (w : World) (g : Nat) (a : Option Addr) (c : Nat) (key : List Int) (hr : Rd w g a .u8 key) (hb : Byt key) (hc : key.length ≤ c) (ct : Int) (g' : Nat) (a' : Option Addr) (c' : Nat) (non : List Int) (hr' : Rd w g' a' .u8 non) (hb' : Byt non) (hc' : non.length ≤ c')
    (g2 : Nat) (a2 : Option Addr) (c2 : Nat) (data : List Int) (hr2 : Rd w g2 a2 .u8 data) (hn : data.length ≤ 4194304) :
    Calls Tryz.prog 63 #[.slice a key.length c, .int .i64 ct, .slice a' non.length c', .slice a2 data.length c2] w fun e w' => NewRow w.heap.size w' e .u8 (sxA key ct non data) ∧ Below w.heap.size w w' := by
  by_cases hf : fitB key ct non = true
  · have h := hf
    unfold fitB at h
    simp only [Bool.and_eq_true, decide_eq_true_eq] at h
    by_cases h3 : hasC ct data.length = true
    · have h3' := h3
      unfold hasC at h3'
      simp only [decide_eq_true_eq] at h3'
      have RS : sxA key ct non data = fill (sxF key ct non data) data.length := by unfold sxA; rw [if_pos ⟨hf, h3⟩]; exact sx_fill key ct non data
      rw [RS]
      exact specXor_core w g a c key hr hb hc ct h.2.1 h.2.2 g' a' c' non hr' hb' hc' g2 a2 c2 data hr2 hn hf h3'
    · have RS : Hid (sxA key ct non data = []) := by show _ = _; unfold sxA; rw [if_neg (fun h => h3 h.2)]
      rw [RS.out]
      unfold hasC at h3
      simp only [decide_eq_true_eq] at h3
      have FT := fits_any w a a' c c' key non ct
      rw [hf] at FT
      have h0 := h.2.1
      have h1 := h.2.2
      have q1 : decide ((4294967295 : Int) < ct + ((data.length : Int) + 63) / 64 - 1) = true := by simp; omega
      have cb0 : (0 : Int) ≤ ((data.length : Int) + 63) / 64 := by omega
      have cb1 : ((data.length : Int) + 63) / 64 ≤ 65537 := by omega
      clear hf RS h h3
      go_enter Tryz.func63, Tryz.ntmps63
      go_wp2_with fail
      refine FT.mono ?_
      rintro e w1 ⟨rfl, rfl⟩
      go_wp2
      go_ret
      exact ⟨newRow_e _ _, (Below.refl _ _).alloc (Nat.le_refl _) _⟩
  · have RS : Hid (sxA key ct non data = []) := by show _ = _; unfold sxA; rw [if_neg (fun h => hf h.1)]
    rw [RS.out]
    have FT := fits_any w a a' c c' key non ct
    rw [show fitB key ct non = false by simpa using hf] at FT
    clear hf RS
    go_enter Tryz.func63, Tryz.ntmps63
    go_wp2_with fail
    refine FT.mono ?_
    rintro e w1 ⟨rfl, rfl⟩
    go_wp2
    go_ret
    exact ⟨newRow_e _ _, (Below.refl _ _).alloc (Nat.le_refl _) _⟩
end Go.Proofs.YtbdecibgejmelaaGreatDoor

/-
  The model's StreamXor answers a row that may be appended to (written by gens/spr.py).
-/
namespace Go.Proofs.YtbdecibgejmelaaGreatDoor
set_option maxRecDepth 100000
open Go Go.RowKit

set_option maxRecDepth 100000 in
set_option maxHeartbeats 8000000 in
theorem specXorR_core (w : World) (g : Nat) (a : Option Addr) (c : Nat) (key : List Int) (hr : Rd w g a .u8 key) (hb : Byt key) (hc : key.length ≤ c) (ct : Int) (h0 : 0 ≤ ct) (h1 : ct ≤ 4294967295) (g' : Nat) (a' : Option Addr) (c' : Nat) (non : List Int) (hr' : Rd w g' a' .u8 non) (hb' : Byt non) (hc' : non.length ≤ c')
    (g2 : Nat) (a2 : Option Addr) (c2 : Nat) (data : List Int) (hr2 : Rd w g2 a2 .u8 data) (hn : data.length ≤ 4194304) (hf : fitB key ct non = true) (h3 : (data.length : Int) ≤ (4294967296 - ct) * 64) :
    Calls Tryz.prog 63 #[.slice a key.length c, .int .i64 ct, .slice a' non.length c', .slice a2 data.length c2] w fun e w' => (∃ v, e = .returned v ∧ RowB w' w.heap.size v (fill (sxF key ct non data) data.length)) ∧ Below w.heap.size w w' := by
  obtain ⟨i0, hi, hz0, hz1, hz2⟩ := info_parts Tryz.info5
  have FT := fits_any w a a' c c' key non ct
  rw [hf] at FT
  have SB := fun W (k : Nat) (n : Below w.heap.size w W) => hide (specBlock_any W g a c key (hr.up n) hb hc (ct + ((k / 64 : Nat) : Int)) g' a' c' non (hr'.up n) hb' hc')
  have SA : ∀ k, k < data.length → Hid (sbA key (ct + ((k / 64 : Nat) : Int)) non = strB key (ct + ((k / 64 : Nat) : Int)) non) := fun k hk => sbA_fit hf (by omega) (by omega)
  have BLl : ∀ c, (strB key c non).length = 64 := fun c => stB_len _
  have FS : ∀ i, fill (sxF key ct non data) (i + 1) = fill (sxF key ct non data) i ++ [bits BinOp.xor IntKind.u8 (data.getD i 0) ((strB key (ct + ((i / 64 : Nat) : Int)) non).getD (i % 64) 0)] := fun i => fill_succ _ _
  have FLn : ∀ i, (fill (sxF key ct non data) i).length = i := fun i => fill_len _ _
  have q1 : decide ((4294967295 : Int) < ct + ((data.length : Int) + 63) / 64 - 1) = false := by simp; omega
  have dn : (data.length : Int) ≤ 4194304 := by omega
  have hq1 := hide q1
  clear hf hr hr' hb hb' h3
  generalize sxF key ct non data = f at *
  generalize hlen : data.length = n at *
  have HN := hide hlen
  have cb0 : (0 : Int) ≤ ((n : Int) + 63) / 64 := by omega
  have cb1 : ((n : Int) + 63) / 64 ≤ 65537 := by omega
  go_enter Tryz.func63, Tryz.ntmps63
  go_wp2_with fail
  refine FT.mono ?_
  rintro e w1 ⟨rfl, rfl⟩
  clear FT
  have n1 : Below w1.heap.size w1 (w1.alloc (.cells #[] 5)) := (Below.refl _ _).alloc (Nat.le_refl _) _
  have R1 := RowB.lit0 w1
  have z1 : (w1.alloc (.cells #[] 5)).heap.size = w1.heap.size + 1 := by simp
  have n2 : Below (w1.alloc (.cells #[] 5)).heap.size (w1.alloc (.cells #[] 5)) ((w1.alloc (.cells #[] 5)).alloc (.cells #[] 5)) := (Below.refl _ _).alloc (Nat.le_refl _) _
  go_wp2
  have R2 := R1.up n2
  have N2 := nxt n1 n2
  generalize (w1.alloc (.cells #[] 5)).alloc (.cells #[] 5) = wa at *
  clear n1 n2 R1 z1
  go_loopw [9, 10, 11] (fun v b u wr => ∃ (i : Nat), i ≤ n ∧ u = .int .i64 i ∧ RowB wr w1.heap.size v (fill f i) ∧ (i % 64 ≠ 0 → ∃ (bo bc bg : Nat), b = .slice (some ⟨bg, bo, none⟩) 64 bc ∧ Rd wr bg (some ⟨bg, bo, none⟩) .u8 (strB key (ct + ((i / 64 : Nat) : Int)) non) ∧ v.ownBlock ≠ some bg ∧ bg < wr.heap.size) ∧ Below w1.heap.size w1 wr) (fun _ _ u _ => n - (intOf u).toNat)
  case atStart => exact ⟨0, Nat.zero_le _, rfl, R2, fun h => absurd rfl h, N2⟩
  case round =>
    obtain ⟨i, hin, rfl, hV, hBk, hN⟩ := hrel
    clear R2 N2
    by_cases hlt : i < n
    · have iI : (i : Int) < (n : Int) := by omega
      by_cases h64 : i % 64 = 0
      · have e64 : (i : Int) % 64 = 0 := by omega
        have SBi := SB wr i hN
        rw [(SA i hlt).out] at SBi
        have BL := hide (BLl (ct + ((i / 64 : Nat) : Int)))
        obtain ⟨Bk, hBk'⟩ : ∃ b, b = strB key (ct + ((i / 64 : Nat) : Int)) non := ⟨_, rfl⟩
        rw [← hBk'] at SBi BL
        obtain ⟨kq, hkq⟩ : ∃ k, k = i / 64 := ⟨_, rfl⟩
        rw [← hkq] at SBi
        have d64 : (i : Int) / 64 = (kq : Int) := by omega
        have b64 : (kq : Int) ≤ 65537 := by omega
        have b65 : 0 ≤ ct + (kq : Int) := by omega
        have b66 : ct + (kq : Int) ≤ 4295032833 := by omega
        clear hkq
        have HBk := hide hBk'.symm
        clear hBk' hBk SB SA
        go_wp2_with fail
        refine SBi.out.mono ?_
        rintro e w3 ⟨⟨ba, bc, bg, rfl, bO, bp, bq, br⟩, n3⟩
        obtain ⟨bo, eb, -⟩ := bO.rd (by rw [BL.out]; decide)
        subst eb
        have bR := bO.rd
        rw [BL.out]
        have sV := hV.up n3
        have sN := nxt hN n3
        have bl := bR.lt (by rw [BL.out]; decide)
        have bN : Value.ownBlock u9 ≠ some bg := fun e => by have := (World.ownsRow.lt hV bg e).2; omega
        clear SBi bO bp bq hV hN n3
        go_wp2_with fail
        clear e64 d64
        obtain ⟨im, him⟩ : ∃ m, m = i % 64 := ⟨_, rfl⟩
        have m64 : (i : Int) % 64 = (im : Int) := by omega
        have l64 : (im : Int) < 64 := by omega
        have k64 : (0 : Int) ≤ (im : Int) := by omega
        have mt : Int.tmod (i : Int) 64 = (im : Int) := by rw [Int.tmod_eq_emod_of_nonneg (by omega)]; exact m64
        have i00 : (0 : Int) ≤ (i : Int) := by omega
        have im64 : im < 64 := by omega
        have FE : Hid (fill f (i + 1) = fill f i ++ [bits BinOp.xor IntKind.u8 (data.getD i 0) (Bk.getD im 0)]) := by show _ = _; rw [FS i, HBk.out, him]
        obtain ⟨o2, ea2, hc2⟩ := hr2 (by rw [HN.out]; omega)
        subst ea2
        have gl2 := hr2.lt (by rw [HN.out]; omega)
        have CD : ∀ W, Below w1.heap.size w1 W → W.cell? ⟨g2, o2 + i, none⟩ = some (.int .u8 (data.getD i 0)) := fun W h => (World.cell?_of_block (a := ⟨g2, o2 + i, none⟩) (h.block g2 gl2)).trans (hc2 i (by rw [HN.out]; exact hlt))
        have CB : ∀ W, Rd W bg (some ⟨bg, bo, none⟩) .u8 Bk → W.cell? ⟨bg, bo + im, none⟩ = some (.int .u8 (Bk.getD im 0)) := fun W h => by
          obtain ⟨o3, e3, hc3⟩ := h (by rw [BL.out]; decide)
          simp only [Option.some.injEq, Addr.mk.injEq, true_and, and_true] at e3
          subst e3
          exact hc3 im (by rw [BL.out]; exact im64)
        clear him hc2
        generalize data.getD i 0 = dv at *
        generalize Bk.getD im 0 = bv at *
        have cd0 := CD w3 sN
        have cb0 := CB w3 bR
        have A0 : Hid (∃ v' w7, (Builtin.append_ #[22, 22] 22 #[u9, .slice (some ⟨w3.heap.size, 0, none⟩) 1 1]).run Tryz.prog (w3.drew.alloc (.cells #[.int .u8 (bits BinOp.xor IntKind.u8 dv bv)] 5)) = .ok v' w7 ∧ (RowB w7 w1.heap.size v' (fill f (i + 1)) ∧ Below w1.heap.size w1 w7 ∧ Rd w7 bg (some ⟨bg, bo, none⟩) .u8 Bk ∧ v'.ownBlock ≠ some bg ∧ bg < w7.heap.size ∧ (w7.cell? ⟨g2, o2 + i, none⟩ = some (.int .u8 dv) ∧ w7.cell? ⟨bg, bo + im, none⟩ = some (.int .u8 bv)))) := by
          have n6 : Below w3.heap.size w3 (w3.drew.alloc (.cells #[.int .u8 (bits BinOp.xor IntKind.u8 dv bv)] 5)) := ((Below.refl _ _).drew).alloc (Nat.le_refl _) _
          have B6 : Blk (w3.drew.alloc (.cells #[.int .u8 (bits BinOp.xor IntKind.u8 dv bv)] 5)) w3.heap.size .u8 [bits BinOp.xor IntKind.u8 dv bv] := blk_lit1 w3.drew .u8 5 _
          have z6 : (w3.drew.alloc (.cells #[.int .u8 (bits BinOp.xor IntKind.u8 dv bv)] 5)).heap.size = w3.heap.size + 1 := by simp
          generalize w3.drew.alloc (.cells #[.int .u8 (bits BinOp.xor IntKind.u8 dv bv)] 5) = wz at *
          have sz := sN.size
          obtain ⟨v', w7, hap, o7, G7, W7⟩ := append_anyH (P := Tryz.prog) wz 22 i0 Tryz.underlying22 hi hz0 hz1 hz2 w1.heap.size _ _ (sV.up n6) w3.heap.size 0 1 [bits BinOp.xor IntKind.u8 dv bv] B6.own0.rd (by rw [FLn]; simp; omega) (by omega)
          have lo := fun k h => World.ownsRow.lt sV k h
          have N7 : Below w1.heap.size w1 w7 := (sN.trans (n6.mono sz)).trans ⟨G7.os, G7.tape, G7.output, G7.size, fun k hk => G7.block k (by omega) (fun e => by have := (lo k e.symm).1; omega)⟩
          have bR7 := (bR.up n6).of_block (G7.block bg (by omega) (fun e => bN e.symm))
          have s7 := G7.size
          refine ⟨v', w7, hap, by rw [FE.out]; exact o7, N7, bR7, ?_, by omega, CD _ N7, CB _ bR7⟩
          rcases W7 with h | h
          · rw [h]; exact bN
          · rw [h]; intro e; simp only [Option.some.injEq] at e; omega
        clear CD CB FE FS
        go_region_held3 (fun W => W.cell? ⟨g2, o2 + i, none⟩ = some (.int .u8 dv) ∧ W.cell? ⟨bg, bo + im, none⟩ = some (.int .u8 bv))
          (first | go_keep | exact S7)
          (first | (refine step_append_ex rfl (.tmp 46) (.tmp 57) 22 22 rfl _ (.slice (some ⟨w3.heap.size, 0, none⟩) 1 1) rfl rfl _ A0.out ?_; rintro v' w7 ⟨o7, N7, bR7, bN7, bl7, S7⟩) | fail)
        clear A0
        go_wp2
        go_roundw
        case rel => exact ⟨i + 1, by omega, by go_num, o7, fun h => ⟨bo, bc, bg, rfl, by rw [show (i + 1) / 64 = i / 64 by omega, HBk.out]; exact bR7, bN7, bl7⟩, N7⟩
        case measure => simp [intOf]; omega
      · obtain ⟨bo, bc, bg, rfl, bR, bN, bl⟩ := hBk h64
        have e64 : ¬ ((i : Int) % 64 = 0) := by omega
        have BL := hide (BLl (ct + ((i / 64 : Nat) : Int)))
        obtain ⟨Bk, hBk'⟩ : ∃ b, b = strB key (ct + ((i / 64 : Nat) : Int)) non := ⟨_, rfl⟩
        rw [← hBk'] at bR BL
        have HBk := hide hBk'.symm
        clear hBk' hBk SB SA
        have sV := hV
        have sN := hN
        clear hV hN
        go_wp2_with fail
        clear e64
        obtain ⟨im, him⟩ : ∃ m, m = i % 64 := ⟨_, rfl⟩
        have m64 : (i : Int) % 64 = (im : Int) := by omega
        have l64 : (im : Int) < 64 := by omega
        have k64 : (0 : Int) ≤ (im : Int) := by omega
        have mt : Int.tmod (i : Int) 64 = (im : Int) := by rw [Int.tmod_eq_emod_of_nonneg (by omega)]; exact m64
        have i00 : (0 : Int) ≤ (i : Int) := by omega
        have im64 : im < 64 := by omega
        have FE : Hid (fill f (i + 1) = fill f i ++ [bits BinOp.xor IntKind.u8 (data.getD i 0) (Bk.getD im 0)]) := by show _ = _; rw [FS i, HBk.out, him]
        obtain ⟨o2, ea2, hc2⟩ := hr2 (by rw [HN.out]; omega)
        subst ea2
        have gl2 := hr2.lt (by rw [HN.out]; omega)
        have CD : ∀ W, Below w1.heap.size w1 W → W.cell? ⟨g2, o2 + i, none⟩ = some (.int .u8 (data.getD i 0)) := fun W h => (World.cell?_of_block (a := ⟨g2, o2 + i, none⟩) (h.block g2 gl2)).trans (hc2 i (by rw [HN.out]; exact hlt))
        have CB : ∀ W, Rd W bg (some ⟨bg, bo, none⟩) .u8 Bk → W.cell? ⟨bg, bo + im, none⟩ = some (.int .u8 (Bk.getD im 0)) := fun W h => by
          obtain ⟨o3, e3, hc3⟩ := h (by rw [BL.out]; decide)
          simp only [Option.some.injEq, Addr.mk.injEq, true_and, and_true] at e3
          subst e3
          exact hc3 im (by rw [BL.out]; exact im64)
        clear him hc2
        generalize data.getD i 0 = dv at *
        generalize Bk.getD im 0 = bv at *
        have cd0 := CD wr sN
        have cb0 := CB wr bR
        have A0 : Hid (∃ v' w7, (Builtin.append_ #[22, 22] 22 #[u9, .slice (some ⟨wr.heap.size, 0, none⟩) 1 1]).run Tryz.prog (wr.drew.alloc (.cells #[.int .u8 (bits BinOp.xor IntKind.u8 dv bv)] 5)) = .ok v' w7 ∧ (RowB w7 w1.heap.size v' (fill f (i + 1)) ∧ Below w1.heap.size w1 w7 ∧ Rd w7 bg (some ⟨bg, bo, none⟩) .u8 Bk ∧ v'.ownBlock ≠ some bg ∧ bg < w7.heap.size ∧ (w7.cell? ⟨g2, o2 + i, none⟩ = some (.int .u8 dv) ∧ w7.cell? ⟨bg, bo + im, none⟩ = some (.int .u8 bv)))) := by
          have n6 : Below wr.heap.size wr (wr.drew.alloc (.cells #[.int .u8 (bits BinOp.xor IntKind.u8 dv bv)] 5)) := ((Below.refl _ _).drew).alloc (Nat.le_refl _) _
          have B6 : Blk (wr.drew.alloc (.cells #[.int .u8 (bits BinOp.xor IntKind.u8 dv bv)] 5)) wr.heap.size .u8 [bits BinOp.xor IntKind.u8 dv bv] := blk_lit1 wr.drew .u8 5 _
          have z6 : (wr.drew.alloc (.cells #[.int .u8 (bits BinOp.xor IntKind.u8 dv bv)] 5)).heap.size = wr.heap.size + 1 := by simp
          generalize wr.drew.alloc (.cells #[.int .u8 (bits BinOp.xor IntKind.u8 dv bv)] 5) = wz at *
          have sz := sN.size
          obtain ⟨v', w7, hap, o7, G7, W7⟩ := append_anyH (P := Tryz.prog) wz 22 i0 Tryz.underlying22 hi hz0 hz1 hz2 w1.heap.size _ _ (sV.up n6) wr.heap.size 0 1 [bits BinOp.xor IntKind.u8 dv bv] B6.own0.rd (by rw [FLn]; simp; omega) (by omega)
          have lo := fun k h => World.ownsRow.lt sV k h
          have N7 : Below w1.heap.size w1 w7 := (sN.trans (n6.mono sz)).trans ⟨G7.os, G7.tape, G7.output, G7.size, fun k hk => G7.block k (by omega) (fun e => by have := (lo k e.symm).1; omega)⟩
          have bR7 := (bR.up n6).of_block (G7.block bg (by omega) (fun e => bN e.symm))
          have s7 := G7.size
          refine ⟨v', w7, hap, by rw [FE.out]; exact o7, N7, bR7, ?_, by omega, CD _ N7, CB _ bR7⟩
          rcases W7 with h | h
          · rw [h]; exact bN
          · rw [h]; intro e; simp only [Option.some.injEq] at e; omega
        clear CD CB FE FS
        go_region_held3 (fun W => W.cell? ⟨g2, o2 + i, none⟩ = some (.int .u8 dv) ∧ W.cell? ⟨bg, bo + im, none⟩ = some (.int .u8 bv))
          (first | go_keep | exact S7)
          (first | (refine step_append_ex rfl (.tmp 46) (.tmp 57) 22 22 rfl _ (.slice (some ⟨wr.heap.size, 0, none⟩) 1 1) rfl rfl _ A0.out ?_; rintro v' w7 ⟨o7, N7, bR7, bN7, bl7, S7⟩) | fail)
        clear A0
        go_wp2
        go_roundw
        case rel => exact ⟨i + 1, by omega, by go_num, o7, fun h => ⟨bo, bc, bg, rfl, by rw [show (i + 1) / 64 = i / 64 by omega, HBk.out]; exact bR7, bN7, bl7⟩, N7⟩
        case measure => simp [intOf]; omega
    · obtain rfl : i = n := by omega
      obtain ⟨a3, c3, g3, rfl, -, -, -, -⟩ := hV.own
      clear FLn
      go_wp2
      go_ret
      exact ⟨⟨_, rfl, hV⟩, hN⟩
end Go.Proofs.YtbdecibgejmelaaGreatDoor

/-
  The model's l8Summed, l8Sum and Seal (written by gens/pzd.py).
-/
namespace Go.Proofs.YtbdecibgejmelaaGreatDoor
set_option maxRecDepth 100000
open Go Go.RowKit

/-- A row that may be read. -/
def Fact.ro (xs : List Int) : Fact := ⟨fun v W => ∃ (a : Option Addr) (c g : Nat), v = .slice a xs.length c ∧ Rd W g a .u8 xs ∧ xs.length ≤ c ∧ (a = none → c = 0), fun h ⟨a, c, g, e, r, l, p⟩ => ⟨a, c, g, e, r.up h, l, p⟩⟩
set_option maxHeartbeats 1000000 in
theorem l1CopyR_any (w : World) (g : Nat) (a : Option Addr) (c : Nat) (xs : List Int) (hr : Rd w g a .u8 xs) (hc : a = none → c = 0) (hn : xs.length ≤ 4194304) :
    Calls Tryz.prog 35 #[.slice a xs.length c] w fun e w' => (∃ v, e = .returned v ∧ RowB w' w.heap.size v xs) ∧ Below w.heap.size w w' := by
  obtain ⟨i0, hi, hz0, hz1, hz2⟩ := info_parts Tryz.info5
  have hal : Below w.heap.size w (w.alloc (.cells #[] 5)) := (Below.refl _ _).alloc (Nat.le_refl _) _
  obtain ⟨v', w2, hap, o2, n2⟩ := append_any (P := Tryz.prog) (w.alloc (.cells #[] 5)) 22 i0 Tryz.underlying22 hi hz0 hz1 hz2 w.heap.size w.heap.size _ [] (RowB.lit0 w) g a c xs (hr.up hal) hc (by simp; omega) (Nat.le_refl _) (by simp)
  rw [List.nil_append] at o2
  go_enter Tryz.func35, Tryz.ntmps35
  go_wp2_with (at_builtin; refine Lib.wpList_append_run _ rfl _ _ 22 22 rfl _ _ rfl rfl _ _ hap ?_)
  go_ret
  exact ⟨⟨_, rfl, o2⟩, hal.trans n2⟩
theorem len_bval {ys : List Int} {n : Int} (_ : Byt ys) (_ : bval ys = n) (h : ys.length ≤ 1048576) : ys.length ≤ 1048576 := h
theorem little_len (ys : List Int) (n : Nat) (h : Byt ys) (v : bval ys = (n : Int)) : fill (dig ys) 8 = len8 n := fill_congr fun i _ => by rw [dig_of h, v]
set_option maxRecDepth 100000 in
set_option maxHeartbeats 8000000 in
theorem l8Summed_any (w : World) (ge : Nat) (ae : Option Addr) (ce : Nat) (ex : List Int) (he : Rd w ge ae .u8 ex) (en : ae = none → ce = 0)
    (gt : Nat) (at' : Option Addr) (ct : Nat) (tx : List Int) (ht : Rd w gt at' .u8 tx) (tn : at' = none → ct = 0) (hs : ex.length + tx.length ≤ 4000000) :
    Calls Tryz.prog 94 #[.slice ae ex.length ce, .slice at' tx.length ct] w fun e w' => NewRow w.heap.size w' e .u8 (smd ex tx) ∧ Below w.heap.size w w' := by
  obtain ⟨i0, hi, hz0, hz1, hz2⟩ := info_parts Tryz.info5
  have z1 := zpad_len ex.length
  have z2 := zpad_len tx.length
  have l1 := len8_len ex.length
  have l2 := len8_len tx.length
  have ZZ := hide (show (zpad ex.length).length < 16 ∧ (zpad tx.length).length < 16 ∧ (len8 ex.length).length = 8 ∧ (len8 tx.length).length = 8 from ⟨z1, z2, l1, l2⟩)
  have HS := hide hs
  have SMD : Hid (smd ex tx = ex ++ zpad ex.length ++ tx ++ zpad tx.length ++ len8 ex.length ++ len8 tx.length) := rfl
  have eL : ex.length ≤ 4194304 := by omega
  have tL : tx.length ≤ 4194304 := by omega
  clear z1 z2 l1 l2 hs
  go_enter Tryz.func94, Tryz.ntmps94
  go_wp2_with fail
  refine (l1CopyR_any w ge ae ce ex he en eL).mono ?_
  rintro e w1 ⟨⟨v1, rfl, R1⟩, N1⟩
  go_wp2_with fail
  refine (l8Zeros_any w1 ex.length eL).mono ?_
  rintro e w2 ⟨⟨a2, c2, g2, rfl, o2, p2, q2, r2⟩, n2⟩
  have N2 := nxt N1 n2
  obtain ⟨v3, w3, hap3, R3, n3⟩ := append_any (P := Tryz.prog) w2 22 i0 Tryz.underlying22 hi hz0 hz1 hz2 w.heap.size w.heap.size _ _ (R1.up n2) g2 a2 c2 _ o2.rd p2 (by have := ZZ.out; omega) (Nat.le_refl _) N2.size
  have N3 := N2.trans n3
  clear R1 o2 n2 n3 N1 N2
  go_upto_region 2 with (at_builtin; refine Lib.wpList_append_run _ rfl _ _ 22 22 rfl _ _ rfl rfl _ _ hap3 ?_)
  clear hap3
  obtain ⟨v4, w4, hap4, R4, n4⟩ := append_any (P := Tryz.prog) w3 22 i0 Tryz.underlying22 hi hz0 hz1 hz2 w.heap.size w.heap.size _ _ R3 gt at' ct tx (ht.up N3) tn (by rw [List.length_append]; have := ZZ.out; have := HS.out; omega) (Nat.le_refl _) N3.size
  have N4 := N3.trans n4
  clear R3 n4 N3
  go_upto_region 3 with (at_builtin; refine Lib.wpList_append_run _ rfl _ _ 22 22 rfl _ _ rfl rfl _ _ hap4 ?_)
  clear hap4
  go_wp2_with fail
  refine (l8Zeros_any w4 tx.length tL).mono ?_
  rintro e w5 ⟨⟨a5, c5, g5, rfl, o5, p5, q5, r5'⟩, n5⟩
  have N5 := nxt N4 n5
  obtain ⟨v6, w6, hap6, R6, n6⟩ := append_any (P := Tryz.prog) w5 22 i0 Tryz.underlying22 hi hz0 hz1 hz2 w.heap.size w.heap.size _ _ (R4.up n5) g5 a5 c5 _ o5.rd p5 (by rw [List.length_append, List.length_append]; have := ZZ.out; have := HS.out; omega) (Nat.le_refl _) N5.size
  have N6 := N5.trans n6
  clear R4 o5 n5 n6 N4 N5
  go_upto_region 4 with (at_builtin; refine Lib.wpList_append_run _ rfl _ _ 22 22 rfl _ _ rfl rfl _ _ hap6 ?_)
  clear hap6
  go_wp2_with fail
  refine (l1Int_any w6 ex.length eL).mono ?_
  rintro e w7 ⟨ns, hns, ⟨a7, c7, g7, rfl, o7, p7, q7, r7⟩, n7⟩
  have LL := hide (l1Little_any w7 g7 a7 c7 ns 8 o7.rd hns.1 (by have := len_bval hns.1 hns.2.1 hns.2.2; omega) (by omega))
  rw [little_len ns ex.length hns.1 hns.2.1] at LL
  go_wp2_with fail
  refine LL.out.mono ?_
  rintro e w8 ⟨rfl, B8, n8⟩
  have N8 := nxt (nxt N6 n7) n8
  obtain ⟨v9, w9, hap9, R9, n9⟩ := append_any (P := Tryz.prog) w8 22 i0 Tryz.underlying22 hi hz0 hz1 hz2 w.heap.size w.heap.size _ _ ((R6.up n7).up n8) w7.heap.size (some ⟨w7.heap.size, 0, none⟩) 8 _ B8.own0.rd (by simp) (by rw [List.length_append, List.length_append, List.length_append]; have := ZZ.out; have := HS.out; omega) (Nat.le_refl _) N8.size
  rw [ZZ.out.2.2.1] at hap9
  have N9 := N8.trans n9
  clear R6 o7 n7 n8 B8 n9 N6 N8 LL hns
  go_upto_region 5 with (at_builtin; refine Lib.wpList_append_run _ rfl _ _ 22 22 rfl _ _ rfl rfl _ _ hap9 ?_)
  clear hap9
  go_wp2_with fail
  refine (l1Int_any w9 tx.length tL).mono ?_
  rintro e wa ⟨ms, hms, ⟨aa, ca, ga, rfl, oa, pa, qa, ra⟩, na⟩
  have LL := hide (l1Little_any wa ga aa ca ms 8 oa.rd hms.1 (by have := len_bval hms.1 hms.2.1 hms.2.2; omega) (by omega))
  rw [little_len ms tx.length hms.1 hms.2.1] at LL
  go_wp2_with fail
  refine LL.out.mono ?_
  rintro e wb ⟨rfl, Bb, nb⟩
  have Nb := nxt (nxt N9 na) nb
  obtain ⟨vc, wc, hapc, Rc, nc⟩ := append_any (P := Tryz.prog) wb 22 i0 Tryz.underlying22 hi hz0 hz1 hz2 w.heap.size w.heap.size _ _ ((R9.up na).up nb) wa.heap.size (some ⟨wa.heap.size, 0, none⟩) 8 _ Bb.own0.rd (by simp) (by rw [List.length_append, List.length_append, List.length_append, List.length_append]; have := ZZ.out; have := HS.out; omega) (Nat.le_refl _) Nb.size
  rw [ZZ.out.2.2.2] at hapc
  have Nc := Nb.trans nc
  rw [← SMD.out] at Rc
  clear R9 oa na nb Bb nc N9 Nb LL hms
  go_wp2_with (at_builtin; refine Lib.wpList_append_run _ rfl _ _ 22 22 rfl _ _ rfl rfl _ _ hapc ?_)
  go_ret
  obtain ⟨ad, cd, gd, rfl, od, pd, qd, rd⟩ := Rc.own
  exact ⟨⟨ad, cd, gd, rfl, od, pd, qd, rd⟩, Nc⟩

end Go.Proofs.YtbdecibgejmelaaGreatDoor

/-
  The model's l8Sum and Seal (written by gens/pze.py).
-/
namespace Go.Proofs.YtbdecibgejmelaaGreatDoor
set_option maxRecDepth 100000
open Go Go.RowKit

theorem fit0 {key non : List Int} (h : fitK key non = true) : fitB key 0 non = true := by
  unfold fitK at h
  unfold fitB
  rw [h]
  rfl
theorem fit0' {key non : List Int} (h : fitK key non = false) : fitB key 0 non = false := by
  unfold fitK at h
  unfold fitB
  rw [h]
  rfl
theorem fit1 {key non : List Int} (h : fitK key non = true) : fitB key 1 non = true := by
  unfold fitK at h
  unfold fitB
  rw [h]
  rfl
set_option maxRecDepth 100000 in
set_option maxHeartbeats 8000000 in
theorem l8Sum_any (w : World) (g : Nat) (a : Option Addr) (c : Nat) (key : List Int) (hr : Rd w g a .u8 key) (hb : Byt key) (hc : key.length ≤ c) (g' : Nat) (a' : Option Addr) (c' : Nat) (non : List Int) (hr' : Rd w g' a' .u8 non) (hb' : Byt non) (hc' : non.length ≤ c') (hf : fitK key non = true)
    (ge : Nat) (ae : Option Addr) (ce : Nat) (ex : List Int) (he : Rd w ge ae .u8 ex) (eb : Byt ex) (en : ae = none → ce = 0)
    (gt : Nat) (at' : Option Addr) (ct : Nat) (tx : List Int) (ht : Rd w gt at' .u8 tx) (tb : Byt tx) (tn : at' = none → ct = 0) (hs : ex.length + tx.length ≤ 4000000) :
    Calls Tryz.prog 76 #[.slice a key.length c, .slice a' non.length c', .slice ae ex.length ce, .slice at' tx.length ct] w fun e w' => ∃ (x : Option Addr) (y z : Nat), e = .returned (.slice x 16 y) ∧ Rd w' z x .u8 (ssB (nsW key non) ex tx) ∧ (x = none → y = 0) ∧ Below w.heap.size w w' := by
  have SBv : Hid (sbA key 0 non = strB key 0 non) := by show _ = _; unfold sbA; rw [if_pos (fit0 hf)]
  have BL : Hid ((strB key 0 non).length = 64) := stB_len _
  have BB : Hid (Byt (strB key 0 non)) := stB_byt _
  have SSB : Hid (ssB (nsW key non) ex tx = otB ((strB key 0 non).take 32) (smd ex tx)) := rfl
  have SB := fun W (n : Below w.heap.size w W) => hide (specBlock_any W g a c key (hr.up n) hb hc 0 g' a' c' non (hr'.up n) hb' hc')
  simp only [SBv.out] at SB
  have SMl := smd_len ex tx
  have SMB := hide (smd_byt eb tb)
  have SM := fun W (n : Below w.heap.size w W) => hide (l8Summed_any W ge ae ce ex (he.up n) en gt at' ct tx (ht.up n) tn hs)
  have SL := hide (ssB_len (nsW key non) ex tx)
  generalize strB key 0 non = ks at *
  have TL : Hid ((ks.take 32).length = 32) := by show _ = _; rw [List.length_take, BL.out]; rfl
  have OT : Hid (otA (ks.take 32) (smd ex tx) = ssB (nsW key non) ex tx) := by show _ = _; unfold otA; rw [if_pos TL.out, SSB.out]
  have SML : Hid ((smd ex tx).length ≤ 4194304) := by show _ ≤ _; omega
  generalize smd ex tx = sm at *
  clear hf SBv SMl
  go_enter Tryz.func76, Tryz.ntmps76
  go_wp2_with fail
  refine region_end 9 (fun i => [Fact.eq (.slice a key.length c), Fact.eq (.slice a' non.length c'), Fact.ro ks, Fact.ro (ks.take 32), Fact.eq (.slice ae ex.length ce), Fact.eq (.slice at' tx.length ct), Fact.ro sm, Fact.ro (ssB (nsW key non) ex tx), Fact.ro (ssB (nsW key non) ex tx)].getD i Fact.no) (by kernel_rfl) (by kernel_rfl) rfl ?_ ?_
  · intro i hi
    obtain rfl | rfl | rfl | rfl | rfl | rfl | rfl | rfl | rfl : i = 0 ∨ i = 1 ∨ i = 2 ∨ i = 3 ∨ i = 4 ∨ i = 5 ∨ i = 6 ∨ i = 7 ∨ i = 8 := by omega
    · refine step_pure rfl fun f u hb hw hf => ?_
      have e0 : f.tmps[0]?.getD undef = .slice a key.length c := gdv (hb.2.2 0 (by kernel_rfl))
      exact ⟨.slice a key.length c, by simp [go_sem, e0], rfl⟩
    · refine step_pure rfl fun f u hb hw hf => ?_
      have e1 : f.tmps[1]?.getD undef = .slice a' non.length c' := gdv (hb.2.2 1 (by kernel_rfl))
      exact ⟨.slice a' non.length c', by simp [go_sem, e1], rfl⟩
    · refine step_callv rfl 84 _ _ rfl (by kernel_rfl) fun f u hb hw hf => ?_
      have e9 : f.tmps.getD 9 undef = .slice a key.length c := hf 0 9 (by kernel_rfl)
      have e10 : f.tmps.getD 10 undef = .slice a' non.length c' := hf 1 10 (by kernel_rfl)
      show Calls Tryz.prog 84 #[f.tmps.getD 9 undef, .int .i64 0, f.tmps.getD 10 undef] u _
      rw [e9, e10]
      exact (SB u hw).out.mono (by rintro e w' ⟨⟨x, y, z, rfl, o, p, q, r⟩, n⟩; exact ⟨_, rfl, n, x, y, z, rfl, o.rd, q, p⟩)
    · refine step_pure rfl fun f u hb hw hf => ?_
      obtain ⟨x, y, z, e11, R, l, p⟩ := hf 2 11 (by kernel_rfl)
      obtain ⟨o, rfl, hcc⟩ := R (by rw [BL.out]; omega)
      have e11' : f.tmps[11]?.getD undef = .slice (some ⟨z, o, none⟩) 64 y := (gdv e11).trans (by rw [BL.out])
      have y1 : (32 : Int) ≤ (y : Int) := by have := BL.out; omega
      refine ⟨.slice (some ⟨z, o, none⟩) 32 y, by simp [go_sem, e11', y1], some ⟨z, o, none⟩, y, z, by rw [TL.out], fun _ => ⟨o, rfl, fun j hj => ?_⟩, by rw [TL.out]; omega, by simp⟩
      rw [TL.out] at hj
      rw [hcc j (by rw [BL.out]; omega), List.getD_eq_getElem?_getD, List.getD_eq_getElem?_getD, List.getElem?_take, if_pos hj]
    · refine step_pure rfl fun f u hb hw hf => ?_
      have e2 : f.tmps[2]?.getD undef = .slice ae ex.length ce := gdv (hb.2.2 2 (by kernel_rfl))
      exact ⟨.slice ae ex.length ce, by simp [go_sem, e2], rfl⟩
    · refine step_pure rfl fun f u hb hw hf => ?_
      have e3 : f.tmps[3]?.getD undef = .slice at' tx.length ct := gdv (hb.2.2 3 (by kernel_rfl))
      exact ⟨.slice at' tx.length ct, by simp [go_sem, e3], rfl⟩
    · refine step_callv rfl 94 _ _ rfl (by kernel_rfl) fun f u hb hw hf => ?_
      have e13 : f.tmps.getD 13 undef = .slice ae ex.length ce := hf 4 13 (by kernel_rfl)
      have e14 : f.tmps.getD 14 undef = .slice at' tx.length ct := hf 5 14 (by kernel_rfl)
      show Calls Tryz.prog 94 #[f.tmps.getD 13 undef, f.tmps.getD 14 undef] u _
      rw [e13, e14]
      exact (SM u hw).out.mono (by rintro e w' ⟨⟨x, y, z, rfl, o, p, q, r⟩, n⟩; exact ⟨_, rfl, n, x, y, z, rfl, o.rd, q, p⟩)
    · refine step_callv rfl 93 _ _ rfl (by kernel_rfl) fun f u hb hw hf => ?_
      obtain ⟨x1, y1, z1, e12, R1, l1, -⟩ := hf 3 12 (by kernel_rfl)
      obtain ⟨x2, y2, z2, e15, R2, l2, -⟩ := hf 6 15 (by kernel_rfl)
      show Calls Tryz.prog 93 #[f.tmps.getD 12 undef, f.tmps.getD 15 undef] u _
      rw [e12, e15]
      have h := specOneTime_any u z1 x1 y1 (ks.take 32) R1 (byt_take BB.out 32) l1 z2 x2 y2 sm R2 SMB.out SML.out
      rw [OT.out] at h
      exact h.mono (by rintro e w' ⟨⟨x, y, z, rfl, o, p, q, r⟩, n⟩; exact ⟨_, rfl, n, x, y, z, rfl, o.rd, q, p⟩)
    · refine step_pure rfl fun f u hb hw hf => ?_
      obtain ⟨x, y, z, e16, R, l, p⟩ := hf 7 16 (by kernel_rfl)
      have e16' : f.tmps[16]?.getD undef = .slice x (ssB (nsW key non) ex tx).length y := gdv e16
      exact ⟨.slice x (ssB (nsW key non) ex tx).length y, by simp [go_sem, e16'], x, y, z, rfl, R, l, p⟩
  · intro f w8 hb K8 hF
    obtain ⟨x, y, z, e8, R8, -, p8⟩ := hF 8 8 (by kernel_rfl)
    obtain ⟨vs', hvs'⟩ : ∃ vs : Nat → Value, ∀ d, f.tmps.getD d undef = vs d := ⟨_, fun _ => rfl⟩
    have ea := puts_of (md := .any) (n := 17) (k := 9) (by kernel_rfl) rfl hb vs' hvs'
    have v8 : vs' 8 = .slice x 16 y := (hvs' 8).symm.trans (e8.trans (by rw [SL.out]))
    rw [ea]
    clear ea hvs' hF hb e8
    simp only [puts, v8, Act.put, List.setIfInBounds_toArray, List.set_cons_succ, List.set_cons_zero]
    go_wp2
    go_ret
    exact ⟨x, y, z, rfl, R8, p8, K8⟩
set_option maxRecDepth 100000 in
set_option maxHeartbeats 8000000 in
theorem specSeal_any (w : World) (g : Nat) (a : Option Addr) (c : Nat) (key : List Int) (hr : Rd w g a .u8 key) (hb : Byt key) (hc : key.length ≤ c) (g' : Nat) (a' : Option Addr) (c' : Nat) (non : List Int) (hr' : Rd w g' a' .u8 non) (hb' : Byt non) (hc' : non.length ≤ c')
    (ge : Nat) (ae : Option Addr) (ce : Nat) (ex : List Int) (he : Rd w ge ae .u8 ex) (eb : Byt ex) (en : ae = none → ce = 0)
    (g2 : Nat) (a2 : Option Addr) (c2 : Nat) (data : List Int) (hr2 : Rd w g2 a2 .u8 data) (db : Byt data) (hs : ex.length + data.length ≤ 4000000) :
    Calls Tryz.prog 50 #[.slice a key.length c, .slice a' non.length c', .slice ae ex.length ce, .slice a2 data.length c2] w fun e w' => (∃ v, e = .returned v ∧ RowB w' w.heap.size v (seA key non ex data)) ∧ Below w.heap.size w w' := by
  obtain ⟨i0, hi, hz0, hz1, hz2⟩ := info_parts Tryz.info5
  have FT := fits_any w a a' c c' key non 0
  by_cases h1 : fitK key non = true
  · rw [fit0 h1] at FT
    have RS : Hid (seA key non ex data = xt key non data ++ ssB (nsW key non) ex (xt key non data)) := by show _ = _; unfold seA; rw [if_pos h1]
    rw [RS.out]
    have XS := hide (specXorR_core w g a c key hr hb hc 1 (by omega) (by omega) g' a' c' non hr' hb' hc' g2 a2 c2 data hr2 (by omega) (fit1 h1) (by omega))
    have XT : Hid (fill (sxF key 1 non data) data.length = xt key non data) := (sx_fill key 1 non data).symm
    rw [XT.out] at XS
    have XB := hide (xt_byt key non db)
    have XL := hide (xt_len key non data)
    generalize xt key non data = T at *
    have HS := hide (show ex.length + T.length ≤ 4000000 by rw [XL.out]; exact hs)
    have SL := hide (ssB_len (nsW key non) ex T)
    have LS := fun W (n : Below w.heap.size w W) gt at' ct (h : Rd W gt at' .u8 T) (p : at' = none → ct = 0) => hide (l8Sum_any W g a c key (hr.up n) hb hc g' a' c' non (hr'.up n) hb' hc' h1 ge ae ce ex (he.up n) eb en gt at' ct T h XB.out p HS.out)
    clear RS h1 XT XB XL hs
    generalize ssB (nsW key non) ex T = sm at *
    go_enter Tryz.func50, Tryz.ntmps50
    go_wp2_with fail
    refine FT.mono ?_
    rintro e w1 ⟨rfl, h⟩
    have h := h.symm
    subst h
    go_wp2_with fail
    refine XS.out.mono ?_
    rintro e w2 ⟨⟨v2, rfl, R2⟩, N2⟩
    obtain ⟨a3, c3, g3, rfl, o3, p3, q3, r3⟩ := R2.own
    have LS := LS w2 N2 g3 a3 c3 o3.rd p3
    clear XS FT
    go_wp2_with fail
    refine LS.out.mono ?_
    rintro e w4 ⟨x, y, z, rfl, R4, p4, n4⟩
    have N4 := nxt N2 n4
    obtain ⟨v5, w5, hap, o5, n5⟩ := append_any (P := Tryz.prog) w4 22 i0 Tryz.underlying22 hi hz0 hz1 hz2 w.heap.size w.heap.size _ T (R2.up n4) z x y sm R4 p4 (by have := HS.out; have := SL.out; omega) (Nat.le_refl _) N4.size
    rw [SL.out] at hap
    have N5 := N4.trans n5
    clear LS R2 o3 n4 n5 N4
    go_wp2_with (at_builtin; refine Lib.wpList_append_run _ rfl _ _ 22 22 rfl _ _ rfl rfl _ _ hap ?_)
    go_ret
    exact ⟨⟨_, rfl, o5⟩, N5⟩
  · have h1' : fitK key non = false := by simpa using h1
    rw [fit0' h1'] at FT
    have RS : Hid (seA key non ex data = []) := by show _ = _; unfold seA; rw [if_neg h1]
    rw [RS.out]
    clear h1 h1' RS
    go_enter Tryz.func50, Tryz.ntmps50
    go_wp2_with fail
    refine FT.mono ?_
    rintro e w1 ⟨rfl, h⟩
    have h := h.symm
    subst h
    go_wp2
    go_ret
    exact ⟨⟨_, rfl, RowB.lit0 w⟩, (Below.refl _ _).alloc (Nat.le_refl _) _⟩
end Go.Proofs.YtbdecibgejmelaaGreatDoor

/-
  Zeros appended to an owned row of bytes, none too. No program in sight.
-/
namespace Go.Proofs.YtbdecibgejmelaaGreatDoor
set_option maxRecDepth 100000
open Go Go.RowKit

theorem append_zero0 {P : Program} (w : World) (t tn ty e : TypeId) (i : TypeInfo) (z : Value) (kq kn : IntKind) (ht : P.underlying t = some (.slice e)) (htn : P.underlying tn = some (.int kn)) (hi : P.info? e = some i) (hz : i.zero = some z)
    (g n cap : Nat) (hc : n ≤ cap) : (Builtin.append_ #[t, tn] ty #[.slice (some ⟨g, 0, none⟩) n cap, .int kq 0]).run P w = .ok (.slice (some ⟨g, 0, none⟩) n cap) w := by
  have hw : IntKind.i64.wrap (0 : Int) = 0 := by decide
  simp [Builtin.append_, run_underlying ht, run_underlying htn, sizeOf, typeInfo, zeroValue, hi, hz, asInt, asIntOf, hw, hc, storeCells]

theorem appZ_any {P : Program} (w : World) (ty : TypeId) (i : TypeInfo) (ht : P.underlying 22 = some (.slice 5)) (htn : P.underlying 2 = some (.int .i64)) (hi : P.info? 5 = some i) (hz : i.zero = some (.int .u8 0)) (hsize : i.size = 1) (hby : i.bytes = 1)
    (base B g n cap : Nat) (xs : List Int) (hown : RowB w base (.slice (some ⟨g, 0, none⟩) n cap) xs) (m : Nat) (hl : xs.length + m ≤ 1048576) (hB : B ≤ base) (hbase : base ≤ w.heap.size) :
    ∃ v' w', (Builtin.append_ #[22, 2] ty #[.slice (some ⟨g, 0, none⟩) n cap, .int .i64 m]).run P w = .ok v' w' ∧ RowB w' base v' (xs ++ List.replicate m 0) ∧ Below B w w' := by
  by_cases h0 : 0 < m
  · obtain ⟨v', w', h1, h2, h3, -⟩ := append_zeros_own (P := P) w 22 2 ty 5 i .i64 .i64 ht htn hi hz hsize hby base _ xs.length (xs.map (Value.int .u8)) hown (by simp) m h0 hl hbase
    refine ⟨v', w', h1, ?_, (Below.refl B w).grown h3 (by omega) (fun k hk => by have := (World.ownsRow.lt hown k hk).1; omega)⟩
    show w'.ownsRow base 5 1 v' (xs ++ List.replicate m 0).length ((xs ++ List.replicate m 0).map (Value.int .u8))
    rw [List.length_append, List.map_append, List.map_replicate, List.length_replicate]
    exact h2
  · obtain rfl : m = 0 := by omega
    have hc : n ≤ cap := by
      obtain ⟨a, c, g', e, -, -, hc, -⟩ := hown.own
      cases e
      exact hc
    exact ⟨_, w, append_zero0 (P := P) w 22 2 ty 5 i _ .i64 .i64 ht htn hi hz g n cap hc, by simpa using hown, Below.refl _ _⟩
end Go.Proofs.YtbdecibgejmelaaGreatDoor

/-
  Records: EncodeRecord, the program's and the model's.
-/
namespace Go.Proofs.YtbdecibgejmelaaGreatDoor
set_option maxRecDepth 100000
open Go Go.RowKit

theorem step_append_exN {P : Program} {ops : Array Oper} {o : Oper} {a : Act} {w : World} {K : Act → World → Prop} {Q : Exit → Act → World → Prop} {E : Prop} (hg : o.guard = none) (s x : Operand) (t tn : TypeId)
    (ho : o.op = .call { callee := .builtin .append, args := #[s, x], argTypes := #[t, tn] }) (vs vx : Value) (hs : a.eval s = vs) (hx : a.eval x = vx) (R : Value → World → Prop)
    (H : ∃ v' w', (Builtin.append_ #[t, tn] o.type #[vs, vx]).run P w = .ok v' w' ∧ R v' w') (hK : ∀ v' w', R v' w' → K (a.put o.dst v') w') :
    if Region.wanted o (yielded ops a.tmps) = true then Oper.wp P o a w K Q else E := by
  have hw : Region.wanted o (yielded ops a.tmps) = true := by simp [Region.wanted, hg]
  rw [if_pos hw]
  obtain ⟨v', w', hr, hR⟩ := H
  exact Lib.wp_append_run w s x t tn ho vs vx hs hx v' w' hr (hK v' w' hR)
/-- Two cells of a block. -/
structure PrC (w : World) (p : Nat) (x y : Value) : Prop where
  c0 : w.cell? ⟨p, 0, none⟩ = some x
  c1 : w.cell? ⟨p, 1, none⟩ = some y
theorem PrC.up {w w' : World} {p : Nat} {x y : Value} (h : PrC w p x y) (n : Below w.heap.size w w') : PrC w' p x y :=
  ⟨(World.cell?_of_block (a := ⟨p, 0, none⟩) (n.block p (block_lt_of_cell h.c0))).trans h.c0, (World.cell?_of_block (a := ⟨p, 1, none⟩) (n.block p (block_lt_of_cell h.c0))).trans h.c1⟩
theorem PrC.lt {w : World} {p : Nat} {x y : Value} (h : PrC w p x y) : p < w.heap.size := block_lt_of_cell h.c0
theorem PrC.new (w : World) (x y : Value) (t : TypeId) : PrC (w.alloc (.cells #[x, y] t)) w.heap.size x y := ⟨by simp [World.cell?_alloc_at], by simp [World.cell?_alloc_at]⟩
theorem hfV_bad {a1 a2 : Addr} {k n : Int} (h : ¬ (isK k = true ∧ 1 ≤ n ∧ n ≤ 2321)) : ∃ a', hfV a1 a2 k n = .iface 216 (.pointer (some a')) := by
  unfold hfV
  by_cases hk : isK k = true
  · rw [if_pos hk, if_neg (by intro q; exact h ⟨hk, q⟩)]
    exact ⟨a2, rfl⟩
  · rw [if_neg hk]
    exact ⟨a1, rfl⟩
set_option maxHeartbeats 1000000 in
theorem implEncode_any (w : World) (k : Int) (g : Nat) (a : Option Addr) (c : Nat) (xs : List Int) (hr : Rd w g a .u8 xs) (hc : a = none → c = 0) (a1 a2 : Addr) (h1 : Sen w 5 a1) (h2 : Sen w 2 a2) :
    Calls Tryz.prog 22 #[.agg #[.int .i64 k, .slice a xs.length c]] w fun e w' => ∃ v, e = .returned v ∧ RowB w' w.heap.size v (enA k xs) ∧ Below w.heap.size w w' := by
  obtain ⟨i0, hi, hz0, hz1, hz2⟩ := info_parts Tryz.info5
  have m1 : Below w.heap.size w (w.alloc (.cells #[.int .i64 k, .slice a xs.length c] 44)) := (Below.refl _ _).alloc (Nat.le_refl _) _
  have B0 := PrC.new w (.int .i64 k) (.slice a xs.length c) 44
  have z1 : (w.alloc (.cells #[.int .i64 k, .slice a xs.length c] 44)).heap.size = w.heap.size + 1 := by simp
  have m2 : Below (w.alloc (.cells #[.int .i64 k, .slice a xs.length c] 44)).heap.size (w.alloc (.cells #[.int .i64 k, .slice a xs.length c] 44)) ((w.alloc (.cells #[.int .i64 k, .slice a xs.length c] 44)).alloc (.cells #[.int .i64 k, .int .i64 xs.length] 81)) := (Below.refl _ _).alloc (Nat.le_refl _) _
  have B1 := PrC.new (w.alloc (.cells #[.int .i64 k, .slice a xs.length c] 44)) (.int .i64 k) (.int .i64 xs.length) 81
  have N := nxt m1 m2
  have F := fun W (n : Below w.heap.size w W) => hide (fault_any W k xs.length a1 a2 (h1.up n) (h2.up n))
  rw [z1] at B1
  replace B0 := B0.up m2
  by_cases hg : isK k = true ∧ 1 ≤ xs.length ∧ xs.length ≤ 2321
  · have e1 : hfV a1 a2 k xs.length = .nilIface := by rw [hfV, if_pos hg.1, if_pos (by omega)]
    have e2 : Hid (enA k xs = hdL k (xs.length : Int) ++ xs) := by show _ = _; rw [enA, if_pos hg]
    rw [e1] at F
    have hq := nil_neq
    have HL := hide hg.2
    have HB := fun W => hide (headBytes_any W k (xs.length : Int))
    have HDL := hide (hdL_len k (xs.length : Int))
    generalize hdL k (xs.length : Int) = H at *
    clear e1 hg h1 h2 m1 m2 z1
    go_enter Tryz.func22, Tryz.ntmps22
    go_wp2_with fail
    generalize (w.alloc (.cells #[.int .i64 k, .slice a xs.length c] 44)).alloc (.cells #[.int .i64 k, .int .i64 xs.length] 81) = wa at *
    refine (F _ N).out.mono ?_
    rintro e wb ⟨rfl, n1⟩
    replace B0 := B0.up n1
    replace B1 := B1.up n1
    replace N := nxt N n1
    clear n1 F
    have CY : Hid (∀ W, Below wb.heap.size wb W → (W.cell? ⟨w.heap.size, 1, none⟩ = some (.slice a xs.length c) ∧ W.cell? ⟨w.heap.size + 1, 0, none⟩ = some (.int .i64 k) ∧ W.cell? ⟨w.heap.size + 1, 1, none⟩ = some (.int .i64 xs.length))) := fun W m => ⟨(B0.up m).c1, (B1.up m).c0, (B1.up m).c1⟩
    have HB2 : Hid (∀ W, Below wb.heap.size wb W → Calls Tryz.prog 52 #[.agg #[.int .i64 k, .int .i64 xs.length]] W fun e w' => ∃ v, e = .returned v ∧ RowB w' wb.heap.size v H ∧ Below wb.heap.size wb w') := fun W m => (HB W).out.mono (by
      rintro e w' ⟨v, rfl, R, l⟩
      exact ⟨v, rfl, R.base m.size, nxt m l⟩)
    have AP : Hid (∀ W ty v, Below wb.heap.size wb W → RowB W wb.heap.size v H → ∃ v' w', (Builtin.append_ #[22, 22] ty #[v, .slice a xs.length c]).run Tryz.prog W = .ok v' w' ∧ RowB w' wb.heap.size v' (enA k xs) ∧ Below wb.heap.size wb w') := fun W ty v m R => by
      obtain ⟨v', w', h1, h2, h3⟩ := append_any (P := Tryz.prog) W ty i0 Tryz.underlying22 hi hz0 hz1 hz2 wb.heap.size wb.heap.size v H R g a c xs ((hr.up N).up m) hc (by rw [HDL.out]; have := HL.out; omega) (Nat.le_refl _) m.size
      exact ⟨v', w', h1, by rw [e2.out]; exact h2, m.trans h3⟩
    have nd : Below wb.heap.size wb wb.drew := (Below.refl _ _).drew
    clear B0 B1 HB hr
    go_upto_region 4 with fail
    go_region_held3 (fun W => W.cell? ⟨w.heap.size, 1, none⟩ = some (.slice a xs.length c) ∧ W.cell? ⟨w.heap.size + 1, 0, none⟩ = some (.int .i64 k) ∧ W.cell? ⟨w.heap.size + 1, 1, none⟩ = some (.int .i64 xs.length))
      (first | exact (unhide CY) _ b17 | exact (unhide CY) _ b14 | exact (unhide CY) _ nd)
      (first
        | (go_at_call 52; refine ((unhide HB2) _ nd).mono ?_; rintro r w14 ⟨v14, rfl, R14, b14⟩; (have A17 := hide ((unhide AP) w14 22 v14 b14 R14)))
        | (refine step_append_exN rfl (.tmp 14) (.tmp 16) 22 22 rfl v14 (.slice a xs.length c) rfl rfl _ A17.out ?_; rintro v17 w17 ⟨R17, b17⟩)
        | fail)
    all_goals
      go_wp2
      go_ret
      exact ⟨_, rfl, R17.base N.size, nxt N b17⟩
  · obtain ⟨a', e1⟩ := hfV_bad (a1 := a1) (a2 := a2) (k := k) (n := (xs.length : Int)) (fun q => hg ⟨q.1, by omega, by omega⟩)
    have e2 : Hid (enA k xs = []) := by show _ = _; rw [enA, if_neg hg]
    rw [e1] at F
    have hq := er_neq
    clear e1 hg h1 h2 m1 m2 z1 hr
    go_enter Tryz.func22, Tryz.ntmps22
    go_wp2_with fail
    generalize (w.alloc (.cells #[.int .i64 k, .slice a xs.length c] 44)).alloc (.cells #[.int .i64 k, .int .i64 xs.length] 81) = wa at *
    refine (F _ N).out.mono ?_
    rintro e wb ⟨rfl, n1⟩
    go_wp2
    go_ret
    exact ⟨_, rfl, by rw [e2.out]; exact RowB.nilN _ _, nxt N n1⟩
end Go.Proofs.YtbdecibgejmelaaGreatDoor

/-
  The model's Protect.
-/
namespace Go.Proofs.YtbdecibgejmelaaGreatDoor
set_option maxRecDepth 100000
open Go Go.RowKit

def fitA (kl il : Nat) (q : Int) : Bool := decide (kl = 32 ∧ il = 12 ∧ 0 ≤ q ∧ q ≤ 4294967295)
theorem fits15_any (w : World) (ak ai : Option Addr) (kl ck il ci : Nat) (q : Int) :
    Calls Tryz.prog 30 #[.agg #[.slice ak kl ck, .slice ai il ci], .int .i64 q] w fun e w' => e = .returned (.bool (fitA kl il q)) ∧ Below w.heap.size w w' := by
  have n0 : Below w.heap.size w (w.alloc (.cells #[.slice ak kl ck, .slice ai il ci] 29)) := (Below.refl _ _).alloc (Nat.le_refl _) _
  by_cases h1 : kl = 32
  · subst h1
    by_cases h2 : il = 12
    · subst h2
      by_cases h3 : 0 ≤ q
      · have u3 : decide (0 ≤ q) = true := by simpa using h3
        by_cases h4 : q ≤ 4294967295
        · have u4 : decide (q ≤ 4294967295) = true := by simpa using h4
          rw [show fitA 32 12 q = true by simp [fitA]; omega]
          go_enter Tryz.func30, Tryz.ntmps30
          go_wp2
          go_ret
          exact ⟨rfl, n0⟩
        · have u4 : decide (q ≤ 4294967295) = false := by simpa using h4
          rw [show fitA 32 12 q = false by simp [fitA]; omega]
          go_enter Tryz.func30, Tryz.ntmps30
          go_wp2
          go_ret
          exact ⟨rfl, n0⟩
      · have u3 : decide (0 ≤ q) = false := by simpa using h3
        rw [show fitA 32 12 q = false by simp [fitA]; omega]
        go_enter Tryz.func30, Tryz.ntmps30
        go_wp2
        go_ret
        exact ⟨rfl, n0⟩
    · have u2 : ((il : Int) == 12) = false := by simp; omega
      have u2' : decide ((il : Int) = 12) = false := by simp; omega
      rw [show fitA 32 il q = false by simp [fitA]; omega]
      go_enter Tryz.func30, Tryz.ntmps30
      go_wp2
      go_ret
      exact ⟨rfl, n0⟩
  · have u1 : ((kl : Int) == 32) = false := by simp; omega
    have u1' : decide ((kl : Int) = 32) = false := by simp; omega
    rw [show fitA kl il q = false by simp [fitA]; omega]
    go_enter Tryz.func30, Tryz.ntmps30
    go_wp2
    go_ret
    exact ⟨rfl, n0⟩
theorem RwC.at_base {w w' : World} {q base : Nat} {cs : List Value} {t : TypeId} (h : RwC w q cs t) (n : Below base w w') (hq : q < base) : RwC w' q cs t := (n.block q hq).trans h
theorem fitA_iff (K V : List Int) (q : Int) : fitA K.length V.length q = true ↔ K.length = 32 ∧ (rnA V q).length = 12 := by
  rw [rnA_12]
  simp [fitA]
set_option maxRecDepth 100000 in
set_option maxHeartbeats 8000000 in
theorem specProtect_any (w : World) (gk : Nat) (ak : Option Addr) (ck : Nat) (K : List Int) (hk : Rd w gk ak .u8 K) (bk : Byt K) (kk : K.length ≤ ck) (gi : Nat) (ai : Option Addr) (ci : Nat) (V : List Int) (hi : Rd w gi ai .u8 V) (bi : Byt V) (zi : ai = none → ci = 0) (q k : Int)
    (gx : Nat) (ax : Option Addr) (cx : Nat) (xs : List Int) (hx : Rd w gx ax .u8 xs) (bx : Byt xs) (zx : ax = none → cx = 0) (pad : Int) :
    Calls Tryz.prog 21 #[.agg #[.slice ak K.length ck, .slice ai V.length ci], .int .i64 q, .int .i64 k, .slice ax xs.length cx, .int .i64 pad] w fun e w' => ∃ v, e = .returned v ∧ RowB w' w.heap.size v (prA K V q k xs pad) ∧ Below w.heap.size w w' := by
  obtain ⟨i0, hi0, hz0, hz1, hz2⟩ := info_parts Tryz.info5
  have N : Below w.heap.size w (w.alloc (.cells #[.slice ak K.length ck, .slice ai V.length ci] 29)) := (Below.refl _ _).alloc (Nat.le_refl _) _
  have B0 : RwC (w.alloc (.cells #[.slice ak K.length ck, .slice ai V.length ci] 29)) w.heap.size [.slice ak K.length ck, .slice ai V.length ci] 29 := RwC.new w _ _
  have E0 := fun W : World => (show Below W.heap.size W (W.alloc (.cells #[] 5)) from (Below.refl _ _).alloc (Nat.le_refl _) _)
  have FT := hide fun W => fits15_any W ak ai K.length ck V.length ci q
  have KN := hide fun W => known_any W k
  by_cases hP : okP K V q k xs.length pad
  · have hf := (fitA_iff K V q).2 hP.1
    have hk1 := hP.2.1.1
    rw [hf] at FT
    rw [hk1] at KN
    have u1 : decide ((2048 : Int) < (xs.length : Int)) = false := by have := hP.2.1.2.1; simp; omega
    have u2 : decide (pad < 0) = false := by have := hP.2.2; simp; omega
    have u3 : decide (256 < pad) = false := by have := hP.2.2; simp; omega
    have eP : Hid (prA K V q k xs pad = prL K (rnA V q) k xs pad) := by show _ = _; rw [prA, if_pos hP]
    have HP := hide hP
    obtain ⟨pd, rfl⟩ := Int.eq_ofNat_of_zero_le hP.2.2.1
    have CP := hide fun W (m : Below w.heap.size w W) => l1CopyN_any W gx ax cx xs (hx.up m) zx (by have := hP.2.1.2.1; omega)
    obtain ⟨x, hx8⟩ : ∃ x, k % 256 = x := ⟨_, rfl⟩
    have BK : Hid (bigL k 1 = [x]) := by show _ = _; simp [bigL, ← hx8]
    have IL : Hid ((inL k xs pd).length = xs.length + 1 + pd) := inL_len k xs pd
    have IB := hide (inL_byt k bx pd)
    have eA : Hid (prL K (rnA V q) k xs (pd : Int) = hdL 23 (szP xs.length pd) ++ seA K (rnA V q) (hdL 23 (szP xs.length pd)) (inL k xs pd)) := rfl
    have RN := hide fun W (m : Below w.heap.size w W) => specNonce_any W gi ai ci V (hi.up m) zi q
    have RB := hide (rnA_byt bi q)
    have key : ((xs.length : Int) == 0) = false ∨ (((xs.length : Int) == 0) = true ∧ k = 23) := by
      by_cases e : xs.length = 0
      · exact .inr ⟨by rw [e]; rfl, Classical.byContradiction fun c => hP.2.1.2.2 ⟨e, c⟩⟩
      · exact .inl (beq_eq_false_iff_ne.2 (by omega))
    have SE := hide fun W (m : Below w.heap.size w W) gn an cn (hm : Rd W gn an .u8 (rnA V q)) (km : (rnA V q).length ≤ cn) ge ae ce H (hb : Byt H) (he : Rd W ge ae .u8 H) (en : ae = none → ce = 0) (hl : H.length = 3) gy ay cy (hy : Rd W gy ay .u8 (inL k xs pd)) => specSeal_any W gk ak ck K (hk.up m) bk kk gn an cn (rnA V q) hm RB.out km ge ae ce H he hb en gy ay cy (inL k xs pd) hy IB.out (by have := IL.out; have := hP.2.1.2.1; have := hP.2.2; omega)
    clear hP hf hk1 hk bk kk hi bi zi hx bx zx
    have main : ∀ w1 : World, Below w.heap.size w w1 → RwC w1 w.heap.size [.slice ak K.length ck, .slice ai V.length ci] 29 → True := fun _ _ _ => trivial
    clear main
    rcases key with v1 | ⟨v1, rfl⟩
    · have v2 : decide ((xs.length : Int) = 0) = false := decide_eq_false (beq_eq_false_iff_ne.1 v1)
      go_enter Tryz.func21, Tryz.ntmps21
      go_upto_region 1 with fail
      generalize w.alloc (.cells #[.slice ak K.length ck, .slice ai V.length ci] 29) = wa at *
      have b0 := B0.c0
      have b1 := B0.c1
      go_wp2_with fail
      refine (FT.out wa).mono ?_
      rintro e w1 ⟨rfl, m1⟩
      replace N := nxt N m1
      replace B0 := B0.up m1
      clear b0 b1 m1
      go_wp2_with fail
      refine (KN.out w1).mono ?_
      rintro e w2 ⟨rfl, h⟩
      have h := h.symm
      subst h
      go_wp2_with fail
      refine (CP.out w1 N).mono ?_
      rintro e w3 ⟨v3, rfl, R3, m3⟩
      have B1 := B0
      have sN := N.size
      replace N := nxt N m3
      replace B0 := B0.up m3
      have n4 : Below w3.heap.size w3 (w3.alloc (.cells #[.int .u8 x] 5)) := (Below.refl _ _).alloc (Nat.le_refl _) _
      obtain ⟨v4, w4, hap4, R4, m4⟩ := append_any (P := Tryz.prog) (w3.alloc (.cells #[.int .u8 x] 5)) 22 i0 Tryz.underlying22 hi0 hz0 hz1 hz2 w1.heap.size w1.heap.size _ _ (R3.up n4) _ _ 1 [x] (blk_lit1 w3 .u8 5 x).own0.rd (by simp) (by have := HP.out.2.1.2.1; simp; omega) (Nat.le_refl _) (by have := n4.size; have := m3.size; omega)
      obtain ⟨Z, hZ⟩ : ∃ Z, Z = xs ++ [x] := ⟨_, rfl⟩
      rw [← hZ] at R4
      have HZ := hide hZ
      have ZL : Hid (Z.length = xs.length + 1) := by show _ = _; rw [hZ]; simp
      clear hZ
      obtain ⟨g4, cap4, ev, -⟩ := R4.parts (by rw [ZL.out]; omega)
      subst ev
      obtain ⟨v5, w5, hap5, R5, m5⟩ := appZ_any (P := Tryz.prog) w4 22 i0 Tryz.underlying22 Tryz.underlying2 hi0 hz0 hz1 hz2 w1.heap.size w1.heap.size g4 _ cap4 _ R4 pd (by have := HP.out.2.1.2.1; have := HP.out.2.2; have := ZL.out; omega) (Nat.le_refl _) (by have := m4.size; have := n4.size; have := m3.size; omega)
      have eI : Hid (inL k xs pd = Z ++ List.replicate pd 0) := by show _ = _; rw [inL, BK.out, HZ.out, List.append_assoc]
      rw [← eI.out] at R5
      have N5 := ((N.trans (n4.mono (by have := m3.size; omega))).trans (m4.mono (by omega))).trans (m5.mono (by omega))
      have lt0 : w.heap.size < w1.heap.size := (show RwC w1 w.heap.size _ _ from B1).lt
      have B5 := B0.at_base (n4.mono (show w1.heap.size ≤ _ by have := m3.size; omega)) lt0 |>.at_base m4 lt0 |>.at_base m5 lt0
      clear R3 R4 m4 m5 n4 B0 B1 N CP
      replace eI := hide True.intro
      obtain ⟨Y, hY⟩ : ∃ Y, Y = inL k xs pd := ⟨_, rfl⟩
      rw [← hY] at R5 IL IB eA SE
      clear hY
      obtain ⟨a5, c5, g5, rfl, D5, z5, -, -⟩ := R5.rd
      have eS : Hid ((Y.length : Int) + 16 = szP xs.length pd) := by
        show _ = _
        unfold szP
        have := IL.out
        omega
      have L15 := l15Head_any w5 23 ((Y.length : Int) + 16) (by omega) (by have := IL.out; have := HP.out.2.1.2.1; have := HP.out.2.2; omega)
      have HL := hdL_len 23 ((Y.length : Int) + 16)
      have HBy : Byt (hdL 23 ((Y.length : Int) + 16)) := byt_apd (bigL_byt _ _) (bigL_byt _ _)
      have eH : Hid (hdL 23 ((Y.length : Int) + 16) = hdL 23 (szP xs.length pd)) := by show _ = _; rw [eS.out]
      generalize hdL 23 ((Y.length : Int) + 16) = H at *
      rw [← eH.out] at eA
      replace L15 := hide L15
      replace HL := hide HL
      replace HBy := hide HBy
      have sb : (Y.length : Int) ≤ 10000 := by have := IL.out; have := HP.out.2.1.2.1; have := HP.out.2.2; omega
      go_wp2_with (at_builtin; first | refine Lib.wpList_append_run _ rfl _ _ 22 22 rfl _ _ rfl rfl _ _ hap4 ?_ | refine Lib.wpList_append_run _ rfl _ _ 22 2 rfl _ _ rfl rfl _ _ hap5 ?_)
      clear hap4 hap5
      refine L15.out.mono ?_
      rintro e w6 ⟨v6, rfl, R6, m6⟩
      have N6 := nxt N5 m6
      have B6 := B5.up m6
      have D6 := D5.up m6
      obtain ⟨a6, c6, g6, rfl, E6, z6, -, -⟩ := R6.rd
      clear L15 R5 R6 D5 m6 N5 B5 sb lt0 sN
      have CY : Hid (∀ W, Below w6.heap.size w6 W → (W.cell? ⟨w.heap.size, 0, none⟩ = some (.slice ak K.length ck) ∧ W.cell? ⟨w.heap.size, 1, none⟩ = some (.slice ai V.length ci))) := fun W m => ⟨(B6.up m).c0, (B6.up m).c1⟩
      have C1 : Hid (∀ W, Below w6.heap.size w6 W → Calls Tryz.prog 35 #[.slice a6 H.length c6] W fun e w' => ∃ v, e = .returned v ∧ RowB w' w6.heap.size v H ∧ Below w6.heap.size w6 w') := fun W m => (l1CopyN_any W g6 a6 c6 H (E6.up m) z6 (by rw [HL.out]; decide)).mono (by
        rintro e w' ⟨v, rfl, R, l⟩
        exact ⟨v, rfl, R.base m.size, nxt m l⟩)
      have C2 : Hid (∀ W, Below w6.heap.size w6 W → Calls Tryz.prog 32 #[.slice ai V.length ci, .int .i64 q] W fun e w' => ∃ a c g, e = .returned (.slice a (rnA V q).length c) ∧ Rd w' g a .u8 (rnA V q) ∧ (rnA V q).length ≤ c ∧ Below W.heap.size W w') := fun W m => (RN.out W (nxt N6 m)).mono (by
        rintro e w' ⟨v, rfl, R, l⟩
        obtain ⟨a7, c7, g7, rfl, E7, z7, k7, -⟩ := R.rd
        exact ⟨a7, c7, g7, rfl, E7, k7, l⟩)
      have C3 : Hid (∀ W a c g, Below w6.heap.size w6 W → Rd W g a .u8 (rnA V q) → (rnA V q).length ≤ c → Calls Tryz.prog 50 #[.slice ak K.length ck, .slice a (rnA V q).length c, .slice a6 H.length c6, .slice a5 Y.length c5] W fun e w' => ∃ a c g, e = .returned (.slice a (seA K (rnA V q) H Y).length c) ∧ Rd w' g a .u8 (seA K (rnA V q) H Y) ∧ (a = none → c = 0) ∧ Below W.heap.size W w') := fun W a c g m hm km => (SE.out W (nxt N6 m) g a c hm km g6 a6 c6 H HBy.out (E6.up m) z6 HL.out g5 a5 c5 (D6.up m)).mono (by
        rintro e w' ⟨⟨v, rfl, R⟩, l⟩
        obtain ⟨a7, c7, g7, rfl, E7, z7, k7, -⟩ := R.rd
        exact ⟨a7, c7, g7, rfl, E7, z7, l⟩)
      have SLn : Hid ((seA K (rnA V q) H Y).length ≤ 1000000) := Nat.le_trans (seA_len _ _ _ _) (by have := IL.out; have := HP.out.2.1.2.1; have := HP.out.2.2; omega)
      generalize seA K (rnA V q) H Y = T at *
      have AP : Hid (∀ W ty v a c g, Below w6.heap.size w6 W → RowB W w6.heap.size v H → Rd W g a .u8 T → (a = none → c = 0) → ∃ v' w', (Builtin.append_ #[22, 22] ty #[v, .slice a T.length c]).run Tryz.prog W = .ok v' w' ∧ RowB w' w6.heap.size v' (H ++ T) ∧ Below w6.heap.size w6 w') := fun W ty v a c g m R hr hc => by
        obtain ⟨v', w', h1, h2, h3⟩ := append_any (P := Tryz.prog) W ty i0 Tryz.underlying22 hi0 hz0 hz1 hz2 w6.heap.size w6.heap.size v H R g a c T hr hc (by rw [HL.out]; have := SLn.out; omega) (Nat.le_refl _) m.size
        exact ⟨v', w', h1, h2, m.trans h3⟩
      have nd : Below w6.heap.size w6 w6.drew := (Below.refl _ _).drew
      clear SE RN B6 D6 E6
      go_upto_region 5 with fail
      go_region_held3 (fun W => W.cell? ⟨w.heap.size, 0, none⟩ = some (.slice ak K.length ck) ∧ W.cell? ⟨w.heap.size, 1, none⟩ = some (.slice ai V.length ci))
        (first | exact (unhide CY) _ b68 | exact (unhide CY) _ b67 | exact (unhide CY) _ b64 | exact (unhide CY) _ b58 | exact (unhide CY) _ nd)
        (first
          | (go_at_call 35; refine ((unhide C1) _ nd).mono ?_; rintro r w58 ⟨v58, rfl, R58, b58⟩)
          | (go_at_call 32; refine ((unhide C2) _ b58).mono ?_; rintro r w64 ⟨a64, c64, g64, rfl, D64, k64, n64⟩; (have b64 := nxt b58 n64); (have R64 := R58.up n64))
          | (go_at_call 50; refine ((unhide C3) _ _ _ _ b64 D64 k64).mono ?_; rintro r w67 ⟨a67, c67, g67, rfl, D67, z67, n67⟩; (have b67 := nxt b64 n67); (have A68 := hide ((unhide AP) w67 22 v58 a67 c67 g67 b67 (R64.up n67) D67 z67)))
          | (refine step_append_exN rfl (.tmp 58) (.tmp 67) 22 22 rfl v58 (.slice a67 T.length c67) rfl rfl _ A68.out ?_; rintro v68 w68 ⟨R68, b68⟩)
          | fail)
      all_goals
        go_wp2
        go_ret
        exact ⟨_, rfl, by rw [eP.out, eA.out]; exact R68.base N6.size, nxt N6 b68⟩
    · have v2 : decide ((xs.length : Int) = 0) = true := decide_eq_true (beq_iff_eq.1 v1)
      obtain rfl : x = 23 := by omega
      clear hx8
      go_enter Tryz.func21, Tryz.ntmps21
      go_upto_region 1 with fail
      generalize w.alloc (.cells #[.slice ak K.length ck, .slice ai V.length ci] 29) = wa at *
      have b0 := B0.c0
      have b1 := B0.c1
      go_wp2_with fail
      refine (FT.out wa).mono ?_
      rintro e w1 ⟨rfl, m1⟩
      replace N := nxt N m1
      replace B0 := B0.up m1
      clear b0 b1 m1
      go_wp2_with fail
      refine (KN.out w1).mono ?_
      rintro e w2 ⟨rfl, h⟩
      have h := h.symm
      subst h
      go_wp2_with fail
      refine (CP.out w1 N).mono ?_
      rintro e w3 ⟨v3, rfl, R3, m3⟩
      have B1 := B0
      have sN := N.size
      replace N := nxt N m3
      replace B0 := B0.up m3
      have n4 : Below w3.heap.size w3 (w3.alloc (.cells #[.int .u8 23] 5)) := (Below.refl _ _).alloc (Nat.le_refl _) _
      obtain ⟨v4, w4, hap4, R4, m4⟩ := append_any (P := Tryz.prog) (w3.alloc (.cells #[.int .u8 23] 5)) 22 i0 Tryz.underlying22 hi0 hz0 hz1 hz2 w1.heap.size w1.heap.size _ _ (R3.up n4) _ _ 1 [23] (blk_lit1 w3 .u8 5 23).own0.rd (by simp) (by have := HP.out.2.1.2.1; simp; omega) (Nat.le_refl _) (by have := n4.size; have := m3.size; omega)
      obtain ⟨Z, hZ⟩ : ∃ Z, Z = xs ++ [23] := ⟨_, rfl⟩
      rw [← hZ] at R4
      have HZ := hide hZ
      have ZL : Hid (Z.length = xs.length + 1) := by show _ = _; rw [hZ]; simp
      clear hZ
      obtain ⟨g4, cap4, ev, -⟩ := R4.parts (by rw [ZL.out]; omega)
      subst ev
      obtain ⟨v5, w5, hap5, R5, m5⟩ := appZ_any (P := Tryz.prog) w4 22 i0 Tryz.underlying22 Tryz.underlying2 hi0 hz0 hz1 hz2 w1.heap.size w1.heap.size g4 _ cap4 _ R4 pd (by have := HP.out.2.1.2.1; have := HP.out.2.2; have := ZL.out; omega) (Nat.le_refl _) (by have := m4.size; have := n4.size; have := m3.size; omega)
      have eI : Hid (inL 23 xs pd = Z ++ List.replicate pd 0) := by show _ = _; rw [inL, BK.out, HZ.out, List.append_assoc]
      rw [← eI.out] at R5
      have N5 := ((N.trans (n4.mono (by have := m3.size; omega))).trans (m4.mono (by omega))).trans (m5.mono (by omega))
      have lt0 : w.heap.size < w1.heap.size := (show RwC w1 w.heap.size _ _ from B1).lt
      have B5 := B0.at_base (n4.mono (show w1.heap.size ≤ _ by have := m3.size; omega)) lt0 |>.at_base m4 lt0 |>.at_base m5 lt0
      clear R3 R4 m4 m5 n4 B0 B1 N CP
      replace eI := hide True.intro
      obtain ⟨Y, hY⟩ : ∃ Y, Y = inL 23 xs pd := ⟨_, rfl⟩
      rw [← hY] at R5 IL IB eA SE
      clear hY
      obtain ⟨a5, c5, g5, rfl, D5, z5, -, -⟩ := R5.rd
      have eS : Hid ((Y.length : Int) + 16 = szP xs.length pd) := by
        show _ = _
        unfold szP
        have := IL.out
        omega
      have L15 := l15Head_any w5 23 ((Y.length : Int) + 16) (by omega) (by have := IL.out; have := HP.out.2.1.2.1; have := HP.out.2.2; omega)
      have HL := hdL_len 23 ((Y.length : Int) + 16)
      have HBy : Byt (hdL 23 ((Y.length : Int) + 16)) := byt_apd (bigL_byt _ _) (bigL_byt _ _)
      have eH : Hid (hdL 23 ((Y.length : Int) + 16) = hdL 23 (szP xs.length pd)) := by show _ = _; rw [eS.out]
      generalize hdL 23 ((Y.length : Int) + 16) = H at *
      rw [← eH.out] at eA
      replace L15 := hide L15
      replace HL := hide HL
      replace HBy := hide HBy
      have sb : (Y.length : Int) ≤ 10000 := by have := IL.out; have := HP.out.2.1.2.1; have := HP.out.2.2; omega
      go_wp2_with (at_builtin; first | refine Lib.wpList_append_run _ rfl _ _ 22 22 rfl _ _ rfl rfl _ _ hap4 ?_ | refine Lib.wpList_append_run _ rfl _ _ 22 2 rfl _ _ rfl rfl _ _ hap5 ?_)
      clear hap4 hap5
      refine L15.out.mono ?_
      rintro e w6 ⟨v6, rfl, R6, m6⟩
      have N6 := nxt N5 m6
      have B6 := B5.up m6
      have D6 := D5.up m6
      obtain ⟨a6, c6, g6, rfl, E6, z6, -, -⟩ := R6.rd
      clear L15 R5 R6 D5 m6 N5 B5 sb lt0 sN
      have CY : Hid (∀ W, Below w6.heap.size w6 W → (W.cell? ⟨w.heap.size, 0, none⟩ = some (.slice ak K.length ck) ∧ W.cell? ⟨w.heap.size, 1, none⟩ = some (.slice ai V.length ci))) := fun W m => ⟨(B6.up m).c0, (B6.up m).c1⟩
      have C1 : Hid (∀ W, Below w6.heap.size w6 W → Calls Tryz.prog 35 #[.slice a6 H.length c6] W fun e w' => ∃ v, e = .returned v ∧ RowB w' w6.heap.size v H ∧ Below w6.heap.size w6 w') := fun W m => (l1CopyN_any W g6 a6 c6 H (E6.up m) z6 (by rw [HL.out]; decide)).mono (by
        rintro e w' ⟨v, rfl, R, l⟩
        exact ⟨v, rfl, R.base m.size, nxt m l⟩)
      have C2 : Hid (∀ W, Below w6.heap.size w6 W → Calls Tryz.prog 32 #[.slice ai V.length ci, .int .i64 q] W fun e w' => ∃ a c g, e = .returned (.slice a (rnA V q).length c) ∧ Rd w' g a .u8 (rnA V q) ∧ (rnA V q).length ≤ c ∧ Below W.heap.size W w') := fun W m => (RN.out W (nxt N6 m)).mono (by
        rintro e w' ⟨v, rfl, R, l⟩
        obtain ⟨a7, c7, g7, rfl, E7, z7, k7, -⟩ := R.rd
        exact ⟨a7, c7, g7, rfl, E7, k7, l⟩)
      have C3 : Hid (∀ W a c g, Below w6.heap.size w6 W → Rd W g a .u8 (rnA V q) → (rnA V q).length ≤ c → Calls Tryz.prog 50 #[.slice ak K.length ck, .slice a (rnA V q).length c, .slice a6 H.length c6, .slice a5 Y.length c5] W fun e w' => ∃ a c g, e = .returned (.slice a (seA K (rnA V q) H Y).length c) ∧ Rd w' g a .u8 (seA K (rnA V q) H Y) ∧ (a = none → c = 0) ∧ Below W.heap.size W w') := fun W a c g m hm km => (SE.out W (nxt N6 m) g a c hm km g6 a6 c6 H HBy.out (E6.up m) z6 HL.out g5 a5 c5 (D6.up m)).mono (by
        rintro e w' ⟨⟨v, rfl, R⟩, l⟩
        obtain ⟨a7, c7, g7, rfl, E7, z7, k7, -⟩ := R.rd
        exact ⟨a7, c7, g7, rfl, E7, z7, l⟩)
      have SLn : Hid ((seA K (rnA V q) H Y).length ≤ 1000000) := Nat.le_trans (seA_len _ _ _ _) (by have := IL.out; have := HP.out.2.1.2.1; have := HP.out.2.2; omega)
      generalize seA K (rnA V q) H Y = T at *
      have AP : Hid (∀ W ty v a c g, Below w6.heap.size w6 W → RowB W w6.heap.size v H → Rd W g a .u8 T → (a = none → c = 0) → ∃ v' w', (Builtin.append_ #[22, 22] ty #[v, .slice a T.length c]).run Tryz.prog W = .ok v' w' ∧ RowB w' w6.heap.size v' (H ++ T) ∧ Below w6.heap.size w6 w') := fun W ty v a c g m R hr hc => by
        obtain ⟨v', w', h1, h2, h3⟩ := append_any (P := Tryz.prog) W ty i0 Tryz.underlying22 hi0 hz0 hz1 hz2 w6.heap.size w6.heap.size v H R g a c T hr hc (by rw [HL.out]; have := SLn.out; omega) (Nat.le_refl _) m.size
        exact ⟨v', w', h1, h2, m.trans h3⟩
      have nd : Below w6.heap.size w6 w6.drew := (Below.refl _ _).drew
      clear SE RN B6 D6 E6
      go_upto_region 5 with fail
      go_region_held3 (fun W => W.cell? ⟨w.heap.size, 0, none⟩ = some (.slice ak K.length ck) ∧ W.cell? ⟨w.heap.size, 1, none⟩ = some (.slice ai V.length ci))
        (first | exact (unhide CY) _ b68 | exact (unhide CY) _ b67 | exact (unhide CY) _ b64 | exact (unhide CY) _ b58 | exact (unhide CY) _ nd)
        (first
          | (go_at_call 35; refine ((unhide C1) _ nd).mono ?_; rintro r w58 ⟨v58, rfl, R58, b58⟩)
          | (go_at_call 32; refine ((unhide C2) _ b58).mono ?_; rintro r w64 ⟨a64, c64, g64, rfl, D64, k64, n64⟩; (have b64 := nxt b58 n64); (have R64 := R58.up n64))
          | (go_at_call 50; refine ((unhide C3) _ _ _ _ b64 D64 k64).mono ?_; rintro r w67 ⟨a67, c67, g67, rfl, D67, z67, n67⟩; (have b67 := nxt b64 n67); (have A68 := hide ((unhide AP) w67 22 v58 a67 c67 g67 b67 (R64.up n67) D67 z67)))
          | (refine step_append_exN rfl (.tmp 58) (.tmp 67) 22 22 rfl v58 (.slice a67 T.length c67) rfl rfl _ A68.out ?_; rintro v68 w68 ⟨R68, b68⟩)
          | fail)
      all_goals
        go_wp2
        go_ret
        exact ⟨_, rfl, by rw [eP.out, eA.out]; exact R68.base N6.size, nxt N6 b68⟩
  · have eP : Hid (prA K V q k xs pad = []) := by show _ = _; rw [prA, if_neg hP]
    clear hk bk kk hi bi zi hx bx zx
    by_cases hf : fitA K.length V.length q = true
    · rw [hf] at FT
      by_cases hk1 : isK k = true
      · rw [hk1] at KN
        by_cases hl : 2048 < xs.length
        · have u1 : decide ((2048 : Int) < (xs.length : Int)) = true := by simp; omega
          clear hP hf hk1 hl
          go_enter Tryz.func21, Tryz.ntmps21
          go_upto_region 1 with fail
          generalize w.alloc (.cells #[.slice ak K.length ck, .slice ai V.length ci] 29) = wa at *
          have b0 := B0.c0
          have b1 := B0.c1
          go_wp2_with fail
          refine (FT.out wa).mono ?_
          rintro e w1 ⟨rfl, m1⟩
          replace N := nxt N m1
          replace B0 := B0.up m1
          clear b0 b1 m1
          go_wp2_with fail
          refine (KN.out w1).mono ?_
          rintro e w2 ⟨rfl, h⟩
          have h := h.symm
          subst h
          go_wp2
          go_ret
          exact ⟨_, rfl, by rw [eP.out]; exact (RowB.lit0 _).base N.size, nxt N (E0 _)⟩
        · have u1 : decide ((2048 : Int) < (xs.length : Int)) = false := by simp; omega
          by_cases h0 : xs.length = 0 ∧ k ≠ 23
          · have v1 : ((xs.length : Int) == 0) = true := by rw [h0.1]; rfl
            have v2 : decide ((xs.length : Int) = 0) = true := decide_eq_true (by omega)
            have v3 : (k != 23) = true := by simp [h0.2]
            have v4 : decide (k = 23) = false := by simp [h0.2]
            clear hP hf hk1 hl h0
            go_enter Tryz.func21, Tryz.ntmps21
            go_upto_region 1 with fail
            generalize w.alloc (.cells #[.slice ak K.length ck, .slice ai V.length ci] 29) = wa at *
            have b0 := B0.c0
            have b1 := B0.c1
            go_wp2_with fail
            refine (FT.out wa).mono ?_
            rintro e w1 ⟨rfl, m1⟩
            replace N := nxt N m1
            replace B0 := B0.up m1
            clear b0 b1 m1
            go_wp2_with fail
            refine (KN.out w1).mono ?_
            rintro e w2 ⟨rfl, h⟩
            have h := h.symm
            subst h
            go_wp2
            go_ret
            exact ⟨_, rfl, by rw [eP.out]; exact (RowB.lit0 _).base N.size, nxt N (E0 _)⟩
          · have hpad : ¬ (0 ≤ pad ∧ pad ≤ 256) := fun c => hP ⟨(fitA_iff K V q).1 hf, ⟨hk1, by omega, h0⟩, c⟩
            have key : ((xs.length : Int) == 0) = false ∨ (((xs.length : Int) == 0) = true ∧ k = 23) := by
              by_cases e : xs.length = 0
              · exact .inr ⟨by rw [e]; rfl, Classical.byContradiction fun c => h0 ⟨e, c⟩⟩
              · exact .inl (beq_eq_false_iff_ne.2 (by omega))
            clear hP hf hk1 hl h0
            rcases key with v1 | ⟨v1, rfl⟩
            · have v2 : decide ((xs.length : Int) = 0) = false := decide_eq_false (beq_eq_false_iff_ne.1 v1)
              rcases (by omega : pad < 0 ∨ 256 < pad) with h | h
              · have u2 : decide (pad < 0) = true := by simpa using h
                clear h hpad
                go_enter Tryz.func21, Tryz.ntmps21
                go_upto_region 1 with fail
                generalize w.alloc (.cells #[.slice ak K.length ck, .slice ai V.length ci] 29) = wa at *
                have b0 := B0.c0
                have b1 := B0.c1
                go_wp2_with fail
                refine (FT.out wa).mono ?_
                rintro e w1 ⟨rfl, m1⟩
                replace N := nxt N m1
                replace B0 := B0.up m1
                clear b0 b1 m1
                go_wp2_with fail
                refine (KN.out w1).mono ?_
                rintro e w2 ⟨rfl, h⟩
                have h := h.symm
                subst h
                go_wp2
                go_ret
                exact ⟨_, rfl, by rw [eP.out]; exact (RowB.lit0 _).base N.size, nxt N (E0 _)⟩
              · have u2 : decide (pad < 0) = false := by simp; omega
                have u3 : decide (256 < pad) = true := by simpa using h
                clear h hpad
                go_enter Tryz.func21, Tryz.ntmps21
                go_upto_region 1 with fail
                generalize w.alloc (.cells #[.slice ak K.length ck, .slice ai V.length ci] 29) = wa at *
                have b0 := B0.c0
                have b1 := B0.c1
                go_wp2_with fail
                refine (FT.out wa).mono ?_
                rintro e w1 ⟨rfl, m1⟩
                replace N := nxt N m1
                replace B0 := B0.up m1
                clear b0 b1 m1
                go_wp2_with fail
                refine (KN.out w1).mono ?_
                rintro e w2 ⟨rfl, h⟩
                have h := h.symm
                subst h
                go_wp2
                go_ret
                exact ⟨_, rfl, by rw [eP.out]; exact (RowB.lit0 _).base N.size, nxt N (E0 _)⟩
            · have v2 : decide ((xs.length : Int) = 0) = true := decide_eq_true (beq_iff_eq.1 v1)
              rcases (by omega : pad < 0 ∨ 256 < pad) with h | h
              · have u2 : decide (pad < 0) = true := by simpa using h
                clear h hpad
                go_enter Tryz.func21, Tryz.ntmps21
                go_upto_region 1 with fail
                generalize w.alloc (.cells #[.slice ak K.length ck, .slice ai V.length ci] 29) = wa at *
                have b0 := B0.c0
                have b1 := B0.c1
                go_wp2_with fail
                refine (FT.out wa).mono ?_
                rintro e w1 ⟨rfl, m1⟩
                replace N := nxt N m1
                replace B0 := B0.up m1
                clear b0 b1 m1
                go_wp2_with fail
                refine (KN.out w1).mono ?_
                rintro e w2 ⟨rfl, h⟩
                have h := h.symm
                subst h
                go_wp2
                go_ret
                exact ⟨_, rfl, by rw [eP.out]; exact (RowB.lit0 _).base N.size, nxt N (E0 _)⟩
              · have u2 : decide (pad < 0) = false := by simp; omega
                have u3 : decide (256 < pad) = true := by simpa using h
                clear h hpad
                go_enter Tryz.func21, Tryz.ntmps21
                go_upto_region 1 with fail
                generalize w.alloc (.cells #[.slice ak K.length ck, .slice ai V.length ci] 29) = wa at *
                have b0 := B0.c0
                have b1 := B0.c1
                go_wp2_with fail
                refine (FT.out wa).mono ?_
                rintro e w1 ⟨rfl, m1⟩
                replace N := nxt N m1
                replace B0 := B0.up m1
                clear b0 b1 m1
                go_wp2_with fail
                refine (KN.out w1).mono ?_
                rintro e w2 ⟨rfl, h⟩
                have h := h.symm
                subst h
                go_wp2
                go_ret
                exact ⟨_, rfl, by rw [eP.out]; exact (RowB.lit0 _).base N.size, nxt N (E0 _)⟩
      · have hk2 : isK k = false := by simpa using hk1
        rw [hk2] at KN
        clear hP hf hk1 hk2
        go_enter Tryz.func21, Tryz.ntmps21
        go_upto_region 1 with fail
        generalize w.alloc (.cells #[.slice ak K.length ck, .slice ai V.length ci] 29) = wa at *
        have b0 := B0.c0
        have b1 := B0.c1
        go_wp2_with fail
        refine (FT.out wa).mono ?_
        rintro e w1 ⟨rfl, m1⟩
        replace N := nxt N m1
        replace B0 := B0.up m1
        clear b0 b1 m1
        go_wp2_with fail
        refine (KN.out w1).mono ?_
        rintro e w2 ⟨rfl, h⟩
        have h := h.symm
        subst h
        go_wp2
        go_ret
        exact ⟨_, rfl, by rw [eP.out]; exact (RowB.lit0 _).base N.size, nxt N (E0 _)⟩
    · have hf2 : fitA K.length V.length q = false := by simpa using hf
      rw [hf2] at FT
      clear hP hf hf2 KN
      go_enter Tryz.func21, Tryz.ntmps21
      go_upto_region 1 with fail
      generalize w.alloc (.cells #[.slice ak K.length ck, .slice ai V.length ci] 29) = wa at *
      have b0 := B0.c0
      have b1 := B0.c1
      go_wp2_with fail
      refine (FT.out wa).mono ?_
      rintro e w1 ⟨rfl, m1⟩
      replace N := nxt N m1
      replace B0 := B0.up m1
      clear b0 b1 m1
      go_wp2
      go_ret
      exact ⟨_, rfl, by rw [eP.out]; exact (RowB.lit0 _).base N.size, nxt N (E0 _)⟩
end Go.Proofs.YtbdecibgejmelaaGreatDoor

/-
  What is drawn: the source, its answers, bytes; the laws' own small helpers (Dr without the field's texts).
-/
namespace Go.Proofs.YtbdecibgejmelaaGreatDoor
set_option maxRecDepth 100000
open Go.RowKit

/-- Of what was there nothing but block g has turned. -/
structure But (g : Nat) (w w' : World) : Prop where
  os : w'.os = w.os
  tape : w'.tape = w.tape
  output : w'.output = w.output
  size : w.heap.size ≤ w'.heap.size
  block : ∀ k, k < w.heap.size → k ≠ g → w'.heap[k]? = w.heap[k]?

theorem But.of {g : Nat} {a b c : World} (h : Below a.heap.size a b) (k : Only g b c) : But g a c :=
  ⟨k.os.trans h.os, k.tape.trans h.tape, k.output.trans h.output, by rw [k.size]; exact h.size, fun i hi hne => (k.block i hne).trans (h.block i hi)⟩

theorem But.below {g B : Nat} {w w' : World} (h : But g w w') (hB : B ≤ g) (hs : B ≤ w.heap.size) : Below B w w' := ⟨h.os, h.tape, h.output, h.size, fun k hk => h.block k (by omega) (by omega)⟩

theorem Own.but {w w' : World} {g g' : Nat} {a : Option Addr} {k : IntKind} {xs : List Int} (h : Own w g a k xs) (ho : But g' w w') (hne : 0 < xs.length → g ≠ g') : Own w' g a k xs := by
  by_cases h0 : 0 < xs.length
  · exact h.of_block (ho.block g (h.rd.lt h0) (hne h0))
  · exact fun h1 => absurd h1 h0

set_option maxHeartbeats 400000 in
theorem lwCopy_any (w : World) (g : Nat) (a : Option Addr) (cap : Nat) (xs : List Int) (hr : Rd w g a .u8 xs) (hc : a = none → cap = 0) (hn : xs.length ≤ 1048576) :
    Calls Tryz.prog 20 #[.slice a xs.length cap] w fun e w' => NewRow w.heap.size w' e .u8 xs ∧ Below w.heap.size w w' := by
  obtain ⟨i0, hi, hz0, hz1, hz2⟩ := info_parts Tryz.info5
  have hown : (w.alloc (.cells #[] 5)).ownsRow w.heap.size 5 1 (.slice (some ⟨w.heap.size, 0, none⟩) 0 0) 0 [] := World.ownsRow_lit w #[] 0 (Nat.le_refl _) (by unfold maxLen; omega) (by simp)
  have hal : Below w.heap.size w (w.alloc (.cells #[] 5)) := (Below.refl _ _).alloc (Nat.le_refl _) _
  cases a with
  | none =>
    obtain rfl : xs = [] := by
      by_cases h0 : 0 < xs.length
      · obtain ⟨off, h, _⟩ := hr h0
        simp at h
      · exact List.eq_nil_of_length_eq_zero (by omega)
    obtain rfl := hc rfl
    go_enter Tryz.func20, Tryz.ntmps20
    go_wp2_with (at_builtin; refine wpList_append_own_none rfl _ _ 22 rfl w.heap.size 5 i0 1 Tryz.underlying22 hi _ 0 [] rfl hown rfl ?_)
    go_ret
    exact ⟨⟨_, _, w.heap.size, rfl, Own.nil _ _ _ _, by simp, Nat.zero_le _, Nat.le_refl _⟩, hal⟩
  | some ad =>
    have hcell : ∀ j u, (xs.map (Value.int .u8))[j]? = some u → (w.alloc (.cells #[] 5)).cell? (ad.add j) = some u := by
      intro j u hj
      have hjl : j < xs.length := by
        have := (List.getElem?_eq_some_iff.1 hj).1
        simpa using this
      obtain ⟨off, ha, hcc⟩ := (hr.up hal) (by omega)
      simp only [Option.some.injEq] at ha
      subst ha
      rw [Addr.add_mid, hcc j hjl]
      simpa [hjl] using hj
    have hone : ∀ u ∈ xs.map (Value.int .u8), u.oneCell' = true := by
      intro u hu
      obtain ⟨x, _, rfl⟩ := List.mem_map.1 hu
      rfl
    go_enter Tryz.func20, Tryz.ntmps20
    go_wp2_with (at_builtin; refine wpList_append_own _ rfl _ _ 22 rfl w.heap.size 5 i0 (.int .u8 0) 1 1 Tryz.underlying22 hi hz0 hz1 hz2 rfl (by decide) (.slice (some ⟨w.heap.size, 0, none⟩) 0 0) 0 [] rfl hown ad xs.length cap (xs.map (Value.int .u8)) rfl (by simp) hcell hone (by unfold maxLen; omega) (by omega) (by simp) ?_; intro v' w1 hown' hgrow _)
    simp only [Nat.zero_add, List.nil_append] at hown'
    obtain ⟨a', c', g', rfl, h1, h2, h3, h4⟩ := Own.of_ownsRow hown'
    have hB : Below w.heap.size w w1 := hal.grown hgrow (by simp) (by intro k hk; simp [Value.ownBlock] at hk; omega)
    clear hown' hgrow hown
    go_wp2
    go_ret
    exact ⟨⟨_, _, g', rfl, h1, h2, h3, h4⟩, hB⟩

/-- The text of bytes. -/
def str (xs : List Int) : ByteArray := xs.foldl (fun r n => r.push (UInt8.ofNat n.toNat)) ByteArray.empty

theorem conv_run (w : World) (g : Nat) (a : Option Addr) (c : Nat) (xs : List Int) (hr : Rd w g a .u8 xs) : (convert 22 9 (.slice a xs.length c)).run Tryz.prog w = .ok (.string (str xs)) w := by
  rw [run_convert_bytes_string w 22 9 5 a xs.length c Tryz.underlying22 Tryz.underlying5 Tryz.underlying9]
  cases a with
  | none =>
    obtain rfl : xs = [] := by
      by_cases h0 : 0 < xs.length
      · obtain ⟨off, h, _⟩ := hr h0
        simp at h
      · exact List.eq_nil_of_length_eq_zero (by omega)
    simp [Conv.bytesToString, str]
  | some ad =>
    have hl := run_loadCells_list (P := Tryz.prog) w ad (xs.map (Value.int .u8)) (fun j v hj => by
      have hjl : j < xs.length := by
        have := (List.getElem?_eq_some_iff.1 hj).1
        simpa using this
      obtain ⟨off, ha, hcc⟩ := hr (by omega)
      simp only [Option.some.injEq] at ha
      subst ha
      rw [add_mid, hcc j hjl]
      simpa [hjl] using hj)
    rw [List.length_map] at hl
    exact run_bytesToString w ad xs.length c xs hl

set_option maxHeartbeats 400000 in
theorem lwSame_same (w : World) (g g' : Nat) (a b : Option Addr) (ca cb : Nat) (xs : List Int) (ha : Rd w g a .u8 xs) (hb : Rd w g' b .u8 xs) :
    Calls Tryz.prog 24 #[.slice a xs.length ca, .slice b xs.length cb] w fun e w' => e = .returned (.bool true) ∧ w' = w := by
  have h1 := conv_run w g a ca xs ha
  have h2 := conv_run w g' b cb xs hb
  generalize str xs = s at *
  go_enter Tryz.func24, Tryz.ntmps24
  go_wp2
  go_ret
  exact ⟨by simp, rfl⟩

/-- The source of what is drawn: its code, and how often it was asked. -/
structure Src (w : World) (s : Nat) (a : Option Addr) (n c : Nat) (at_ : Int) : Prop where
  code : w.cell? ⟨s, 0, none⟩ = some (.slice a n c)
  at_ : w.cell? ⟨s, 1, none⟩ = some (.int .i64 at_)
  free : w.frozen? ⟨s, 1, none⟩ = false

theorem Src.lt {w : World} {s : Nat} {a : Option Addr} {n c : Nat} {t : Int} (h : Src w s a n c t) : s < w.heap.size := block_lt_of_cell h.code

theorem Src.of_block {w w' : World} {s : Nat} {a : Option Addr} {n c : Nat} {t : Int} (h : Src w s a n c t) (hb : w'.heap[s]? = w.heap[s]?) : Src w' s a n c t :=
  ⟨(World.cell?_of_block (a := ⟨s, 0, none⟩) hb).trans h.code, (World.cell?_of_block (a := ⟨s, 1, none⟩) hb).trans h.at_, (World.frozen?_of_block (a := ⟨s, 1, none⟩) hb).trans h.free⟩

theorem Src.up {w w' : World} {s : Nat} {a : Option Addr} {n c : Nat} {t : Int} (h : Src w s a n c t) (hb : Below w.heap.size w w') : Src w' s a n c t := h.of_block (hb.block s h.lt)

theorem Src.step {w : World} {s : Nat} {a : Option Addr} {n c : Nat} {t : Int} (h : Src w s a n c t) (u : Int) (m : Nat) : Src ((w.setCell ⟨s, 1, none⟩ (.int .i64 u)).drewN m) s a n c u := by
  refine ⟨?_, ?_, ?_⟩
  · rw [World.cell?_drewN, World.cell?_setCell_other (h := by simp)]; exact h.code
  · rw [World.cell?_drewN, World.cell?_setCell_same _ _ _ h.at_]
  · rw [World.frozen?_drewN, World.frozen?_setCell]; exact h.free

theorem Only.step (w : World) (s : Nat) (u : Value) (m : Nat) : Only s w ((w.setCell ⟨s, 1, none⟩ u).drewN m) := (Only.setCell w s 1 u).trans (Only.drewN _ _ _)

set_option maxHeartbeats 2000000 in
theorem l1Next_any (w : World) (s g : Nat) (a : Option Addr) (c : Nat) (xs : List Int) (t n : Int) (hs : Src w s a xs.length c t) (hr : Rd w g a .u8 xs) (hne : 0 < xs.length → g ≠ s) (hb : Byt xs) (hl : xs.length ≤ 1048576)
    (t0 : 0 ≤ t) (t1 : t ≤ 1048576) (n0 : 1 ≤ n) (n1 : n ≤ 1048576) :
    Calls Tryz.prog 40 #[.pointer (some ⟨s, 0, none⟩), .int .i64 n] w fun e w' => ∃ r, e = .returned (.int .i64 r) ∧ (0 ≤ r ∧ r < n) ∧ Src w' s a xs.length c (t + 1) ∧ Only s w w' := by
  have c0 := hs.code
  have c1 := hs.at_
  have f1 := hs.free
  have k1 : (w.setCell ⟨s, 1, none⟩ (.int .i64 (t + 1))).cell? ⟨s, 1, none⟩ = some (.int .i64 (t + 1)) := World.cell?_setCell_same _ _ _ hs.at_
  have k0 : (w.setCell ⟨s, 1, none⟩ (.int .i64 (t + 1))).cell? ⟨s, 0, none⟩ = some (.slice a xs.length c) := by rw [World.cell?_setCell_other (h := by simp)]; exact hs.code
  have tn : decide (n < 1) = false := by simp; omega
  by_cases h0 : xs.length = 0
  · have hk : ((xs.length : Int) == 0) = true := by simp [h0]
    have r0 := Int.emod_nonneg (t * 7) (show n ≠ 0 by omega)
    have r1 := Int.emod_lt_of_pos (t * 7) (show 0 < n by omega)
    have S := hs.step (t + 1) 0
    have O := Only.step w s (.int .i64 (t + 1)) 0
    clear h0
    go_enter Tryz.func40, Tryz.ntmps40
    go_wp2
    go_ret
    exact ⟨_, rfl, ⟨r0, r1⟩, S, O⟩
  · have hk : ((xs.length : Int) == 0) = false := beq_eq_false_iff_ne.2 (by omega)
    obtain ⟨off, rfl, hc⟩ := hr (by omega)
    have gs : g ≠ s := hne (by omega)
    obtain ⟨i1, hi1⟩ := Int.eq_ofNat_of_zero_le (Int.emod_nonneg t (show (xs.length : Int) ≠ 0 by omega))
    have li1 : (i1 : Int) < (xs.length : Int) := by rw [← hi1]; exact Int.emod_lt_of_pos _ (by omega)
    obtain ⟨i2, hi2⟩ := Int.eq_ofNat_of_zero_le (Int.emod_nonneg (t + 1) (show (xs.length : Int) ≠ 0 by omega))
    have li2 : (i2 : Int) < (xs.length : Int) := by rw [← hi2]; exact Int.emod_lt_of_pos _ (by omega)
    obtain ⟨q, hq⟩ : ∃ q, t / (xs.length : Int) = q := ⟨_, rfl⟩
    have q0 : 0 ≤ q := by rw [← hq]; exact Int.ediv_nonneg t0 (by omega)
    have q1 : q ≤ 1048576 := by rw [← hq]; exact Int.le_trans (Int.ediv_le_self _ t0) t1
    have x1 : (w.setCell ⟨s, 1, none⟩ (.int .i64 (t + 1))).cell? ⟨g, off + i1, none⟩ = some (.int .u8 (xs.getD i1 0)) := by rw [World.cell?_setCell_other (h := fun e => gs (by simpa using (congrArg Addr.block e).symm))]; exact hc i1 (by omega)
    have x2 : (w.setCell ⟨s, 1, none⟩ (.int .i64 (t + 1))).cell? ⟨g, off + i2, none⟩ = some (.int .u8 (xs.getD i2 0)) := by rw [World.cell?_setCell_other (h := fun e => gs (by simpa using (congrArg Addr.block e).symm))]; exact hc i2 (by omega)
    have b1 := hb i1
    have b2 := hb i2
    have S := fun m => hs.step (t + 1) m
    have O := fun m => Only.step w s (.int .i64 (t + 1)) m
    generalize xs.getD i1 0 = x at *
    generalize xs.getD i2 0 = y at *
    clear hc hs hr h0
    by_cases hn : n ≤ 200
    · have tn2 : decide (200 < n) = false := by simp; omega
      have r0 := Int.emod_nonneg (x + q * 37) (show n ≠ 0 by omega)
      have r1 := Int.emod_lt_of_pos (x + q * 37) (show 0 < n by omega)
      clear x2 hi2 li2 b2
      go_enter Tryz.func40, Tryz.ntmps40
      go_wp2
      go_quiet (fail)
      go_wp2
      go_ret
      exact ⟨_, rfl, ⟨r0, r1⟩, S _, O _⟩
    · have tn2 : decide (200 < n) = true := by simp; omega
      have r0 := Int.emod_nonneg ((x + q * 37) * 251 + y * 13 + t) (show n ≠ 0 by omega)
      have r1 := Int.emod_lt_of_pos ((x + q * 37) * 251 + y * 13 + t) (show 0 < n by omega)
      go_enter Tryz.func40, Tryz.ntmps40
      go_wp2
      go_quiet (fail)
      go_wp2
      go_quiet (fail)
      go_wp2
      go_ret
      exact ⟨_, rfl, ⟨r0, r1⟩, S _, O _⟩

theorem But.refl (g : Nat) (w : World) : But g w w := ⟨rfl, rfl, rfl, Nat.le_refl _, fun _ _ _ => rfl⟩

theorem But.only {g : Nat} {a b c : World} (h : But g a b) (k : Only g b c) : But g a c :=
  ⟨k.os.trans h.os, k.tape.trans h.tape, k.output.trans h.output, by rw [k.size]; exact h.size, fun i hi hne => (k.block i hne).trans (h.block i hi hne)⟩

theorem But.grown {g : Nat} {a b c : World} {row : Option Nat} (h : But g a b) (k : b.grownBy c row) (hr : ∀ i, row = some i → a.heap.size ≤ i) : But g a c :=
  ⟨k.os.trans h.os, k.tape.trans h.tape, k.output.trans h.output, Nat.le_trans h.size k.size, fun i hi hne => (k.block i (Nat.lt_of_lt_of_le hi h.size) (fun e => by have := hr i e.symm; omega)).trans (h.block i hi hne)⟩

theorem But.trans {g : Nat} {a b c : World} (h : But g a b) (k : But g b c) : But g a c :=
  ⟨k.os.trans h.os, k.tape.trans h.tape, k.output.trans h.output, Nat.le_trans h.size k.size, fun i hi hne => (k.block i (Nat.lt_of_lt_of_le hi h.size) hne).trans (h.block i hi hne)⟩

theorem But.ofBelow {g : Nat} {a b : World} (h : Below a.heap.size a b) : But g a b := ⟨h.os, h.tape, h.output, h.size, fun i hi _ => h.block i hi⟩

theorem But.ofOnly {g : Nat} {a b : World} (h : Only g a b) : But g a b := (But.refl g a).only h

theorem Rd.but {w w' : World} {g g' : Nat} {a : Option Addr} {k : IntKind} {xs : List Int} (h : Rd w g a k xs) (ho : But g' w w') (hne : 0 < xs.length → g ≠ g') : Rd w' g a k xs := by
  by_cases h0 : 0 < xs.length
  · exact h.of_block (ho.block g (h.lt h0) (hne h0))
  · exact fun h1 => absurd h1 h0

theorem Only.grown {g : Nat} {a b : World} (h : Only g a b) : a.grownBy b (some g) := ⟨h.os, h.tape, h.output, Nat.le_of_eq h.size.symm, fun k _ hne => h.block k (fun e => hne (by rw [e]))⟩

theorem byt_snoc {ys : List Int} (h : Byt ys) (x : Int) (h0 : 0 ≤ x) (h1 : x < 256) : Byt (ys ++ [x]) := by
  intro i
  by_cases hi : i < ys.length
  · have := h i
    simpa [List.getElem?_append, hi] using this
  · by_cases e : i = ys.length
    · subst e; simp; exact ⟨h0, h1⟩
    · rw [List.getD_eq_getElem?_getD, List.getElem?_eq_none (by simp; omega)]
      decide

set_option maxHeartbeats 2000000 in
theorem l1DrawBytes_any (w : World) (s g : Nat) (a : Option Addr) (c : Nat) (xs : List Int) (t : Int) (n : Nat) (hs : Src w s a xs.length c t) (hr : Rd w g a .u8 xs) (hne : 0 < xs.length → g ≠ s) (hb : Byt xs) (hl : xs.length ≤ 1048576)
    (t0 : 0 ≤ t) (t1 : t + (n : Int) ≤ 1048576) :
    Calls Tryz.prog 87 #[.pointer (some ⟨s, 0, none⟩), .int .i64 n] w fun e w' => ∃ ys, ys.length = n ∧ Byt ys ∧ NewRow w.heap.size w' e .u8 ys ∧ Src w' s a xs.length c (t + (n : Int)) ∧ But s w w' := by
  obtain ⟨i0, hi, hz0, hz1, hz2⟩ := info_parts Tryz.info5
  have hown0 : (w.alloc (.cells #[] 5)).ownsRow w.heap.size 5 1 (.slice (some ⟨w.heap.size, 0, none⟩) 0 0) 0 [] := World.ownsRow_lit w #[] 0 (Nat.le_refl _) (by unfold maxLen; omega) (by simp)
  have hal : Below w.heap.size w (w.alloc (.cells #[] 5)) := (Below.refl _ _).alloc (Nat.le_refl _) _
  have hsl := hs.lt
  go_enter Tryz.func87, Tryz.ntmps87
  go_wp2
  go_loopw [5, 6] (fun v i wr => ∃ (k : Nat) (ys : List Int), k ≤ n ∧ i = .int .i64 k ∧ Hid (ys.length = k) ∧ Byt ys ∧ wr.ownsRow w.heap.size 5 1 v k (ys.map (Value.int .u8)) ∧ Src wr s a xs.length c (t + (k : Int)) ∧ But s w wr) (fun _ i _ => n - (intOf i).toNat)
  case atStart => exact ⟨0, [], Nat.zero_le _, rfl, rfl, byt_nil, hown0, by simpa using hs.up hal, But.ofBelow hal⟩
  case round =>
    obtain ⟨k, ys, hk, rfl, hyl, hyb, hown, hS, hN⟩ := hrel
    have hr' := hr.but hN hne
    by_cases hlt : k < n
    · have hob := hown.lt
      go_wp2_with fail
      refine (l1Next_any wr s g a c xs (t + (k : Int)) 256 hS hr' hne hb hl (by omega) (by omega) (by decide) (by decide)).mono ?_
      rintro e w1 ⟨r, rfl, ⟨r0, r1⟩, S1, O1⟩
      have N1 := hN.only O1
      have hown1 := hown.kept O1.grown (by
        cases hv : Value.ownBlock _ with
        | none => exact .inl rfl
        | some q => exact .inr (fun e => by have := (hob q hv).1; simp at e; omega))
      have m1 : r % 256 = r := by omega
      have sz := N1.size
      clear hown hS hN O1 hr'
      go_wp2_with (at_builtin; refine wpList_append_own _ rfl _ _ 22 rfl w.heap.size 5 i0 (.int .u8 0) 1 1 Tryz.underlying22 hi hz0 hz1 hz2 rfl (by decide) _ k (ys.map (Value.int .u8)) rfl (hown1.alloc _) ⟨w1.heap.size, 0, none⟩ 1 1 [.int .u8 r] rfl rfl ?c1 ?c2 ?c3 ?c4 ?c5 ?_)
      case c1 =>
        intro j u hj
        match j, hj with
        | 0, hj => simp at hj; subst hj; simp [Addr.add]
      case c2 => intro u hu; simp at hu; subst hu; rfl
      case c3 => unfold maxLen; omega
      case c4 => omega
      case c5 => simp; omega
      · intro v' w2 hown2 hgrow _
        have nA : But s w (w1.alloc (.cells #[.int .u8 r] 5)) := N1.trans (But.ofBelow ((Below.refl _ _).alloc (Nat.le_refl _) _))
        have N2 := nA.grown hgrow (fun i hi => (hob i hi).1)
        have S2 : Src w2 s a xs.length c (t + ((k + 1 : Nat) : Int)) := by
          have := (S1.up ((Below.refl _ _).alloc (Nat.le_refl _) (.cells #[.int .u8 r] 5))).of_block (hgrow.block s (by simp; omega) (fun e => by have := (hob s e.symm).1; omega))
          rw [show t + ((k + 1 : Nat) : Int) = t + (k : Int) + 1 by omega]
          exact this
        have hown3 : w2.ownsRow w.heap.size 5 1 v' (k + 1) ((ys ++ [r]).map (Value.int .u8)) := by simpa using hown2
        have hl3 : Hid ((ys ++ [r]).length = k + 1) := by show _ = _; have := hyl.out; simp; omega
        have hb3 := byt_snoc hyb r r0 r1
        clear hown1 hown2 hgrow N1 S1 nA hob
        go_wp2
        go_roundw
        case rel => exact ⟨k + 1, ys ++ [r], by omega, by go_num, hl3, hb3, hown3, S2, N2⟩
        case measure => simp [intOf]; omega
    · obtain rfl : k = n := by omega
      have hown' := hown
      rw [← hyl.out] at hown'
      obtain ⟨a', c', g', hv, o1, o2, o3, o4⟩ := Own.of_ownsRow hown'
      subst hv
      clear hown hown'
      go_wp2
      go_ret
      exact ⟨ys, hyl.out, hyb, ⟨_, _, g', rfl, o1, o2, o3, o4⟩, hS, hN⟩

theorem But.setCell {g b off : Nat} {a w : World} {u : Value} (h : But g a w) (hb : a.heap.size ≤ b) : But g a (w.setCell ⟨b, off, none⟩ u) :=
  ⟨h.os, h.tape, h.output, by simpa [World.setCell] using h.size, fun k hk hne => (heap_setCell_other w ⟨b, off, none⟩ k u (by show k ≠ b; omega)).trans (h.block k hk hne)⟩

set_option maxHeartbeats 400000 in
theorem l1Source_any (w : World) (a : Option Addr) (n c : Nat) (hn : n ≤ 1048576) :
    Calls Tryz.prog 39 #[.slice a n c] w fun e w' => e = .returned (.pointer (some ⟨w.heap.size, 0, none⟩)) ∧ Src w' w.heap.size a n c 0 ∧ Below w.heap.size w w' := by
  by_cases h : 12 < (n : Int) / 16
  · have t1 : decide (12 < (n : Int) / 16) = true := by simp; omega
    go_enter Tryz.func39, Tryz.ntmps39
    go_wp2
    go_ret
    exact ⟨rfl, ⟨by simp [World.cell?_alloc_at], by simp [World.cell?_alloc_at], by simp [World.frozen?_alloc_at]⟩, (Below.refl _ _).alloc (Nat.le_refl _) _⟩
  · have t1 : decide (12 < (n : Int) / 16) = false := by simp; omega
    go_enter Tryz.func39, Tryz.ntmps39
    go_wp2
    go_ret
    exact ⟨rfl, ⟨by simp [World.cell?_alloc_at], by simp [World.cell?_alloc_at], by simp [World.frozen?_alloc_at]⟩, (Below.refl _ _).alloc (Nat.le_refl _) _⟩

set_option maxHeartbeats 400000 in
theorem l1Chance_any (w : World) (s g : Nat) (a : Option Addr) (c : Nat) (xs : List Int) (t n : Int) (hs : Src w s a xs.length c t) (hr : Rd w g a .u8 xs) (hne : 0 < xs.length → g ≠ s) (hb : Byt xs) (hl : xs.length ≤ 1048576)
    (t0 : 0 ≤ t) (t1 : t ≤ 1048576) (n0 : 1 ≤ n) (n1 : n ≤ 1048576) :
    Calls Tryz.prog 41 #[.pointer (some ⟨s, 0, none⟩), .int .i64 n] w fun e w' => ∃ b, e = .returned (.bool b) ∧ Src w' s a xs.length c (t + 1) ∧ Only s w w' := by
  go_enter Tryz.func41, Tryz.ntmps41
  go_wp2_with fail
  refine (l1Next_any w s g a c xs t n hs hr hne hb hl t0 t1 n0 n1).mono ?_
  rintro e w1 ⟨r, rfl, _, S1, O1⟩
  go_wp2
  go_ret
  exact ⟨_, rfl, S1, O1⟩

/-- A row that the call made: where it lies, and that it may be read again. -/
def Row (w : World) (g : Nat) (a : Option Addr) (c : Nat) (xs : List Int) : Prop := Own w g a .u8 xs ∧ (a = none → c = 0) ∧ xs.length ≤ c

end Go.Proofs.YtbdecibgejmelaaGreatDoor

/-
  Texts held against each other: cut out of DrS and Sa16.
-/
namespace Go.Proofs.YtbdecibgejmelaaGreatDoor
set_option maxRecDepth 100000
open Go.RowKit

theorem str_data : ∀ (xs : List Int) (acc : ByteArray), (xs.foldl (fun r n => r.push (UInt8.ofNat n.toNat)) acc).data = acc.data ++ (xs.map (fun n => UInt8.ofNat n.toNat)).toArray
  | [], acc => by simp
  | x :: r, acc => by
    rw [List.foldl_cons, str_data r]
    simp [ByteArray.push]

theorem toList_inj {s t : ByteArray} (h : s.toList = t.toList) : s = t := by
  rw [ByteArray.toList_eq, ByteArray.toList_eq] at h
  have := Array.ext' h
  cases s; cases t; simp_all

theorem str_inj {xs ys : List Int} (hx : Byt xs) (hy : Byt ys) (h : str xs = str ys) : xs = ys := by
  have h1 : (xs.map (fun n => UInt8.ofNat n.toNat)) = (ys.map (fun n => UInt8.ofNat n.toNat)) := by
    have := congrArg ByteArray.data h
    unfold str at this
    rw [str_data, str_data] at this
    simpa using this
  have hl : xs.length = ys.length := by have := congrArg List.length h1; simpa using this
  refine eq_of_getD hl (fun i hi => ?_)
  have h2 : (xs.map (fun n => UInt8.ofNat n.toNat))[i]? = (ys.map (fun n => UInt8.ofNat n.toNat))[i]? := by rw [h1]
  have a := hx i
  have b := hy i
  have hi' : i < ys.length := by omega
  simp [hi, hi'] at h2 a b ⊢
  have h3 := congrArg UInt8.toNat h2
  simp at h3
  omega

set_option maxHeartbeats 1000000 in
theorem lwSame_diff (w : World) (g g' : Nat) (a b : Option Addr) (ca cb : Nat) (xs ys : List Int) (ha : Rd w g a .u8 xs) (hb : Rd w g' b .u8 ys) (hx : Byt xs) (hy : Byt ys) (hne : xs ≠ ys) :
    Calls Tryz.prog 24 #[.slice a xs.length ca, .slice b ys.length cb] w fun e w' => e = .returned (.bool false) ∧ w' = w := by
  have h1 := conv_run w g a ca xs ha
  have h2 := conv_run w g' b cb ys hb
  have h3 : str xs ≠ str ys := fun h => hne (str_inj hx hy h)
  clear hne
  generalize str xs = s at *
  generalize str ys = t at *
  have H3 := hide h3
  clear h3
  go_enter Tryz.func24, Tryz.ntmps24
  go_wp2
  go_ret
  have e : (s.toList == t.toList) = false := by
    cases h : (s.toList == t.toList)
    · rfl
    · exact absurd (toList_inj (beq_iff_eq.1 h)) H3.out
  exact ⟨by rw [← e]; rfl, rfl⟩

set_option maxHeartbeats 400000 in
theorem l1Same_same (w : World) (g g' : Nat) (a b : Option Addr) (ca cb : Nat) (xs : List Int) (ha : Rd w g a .u8 xs) (hb : Rd w g' b .u8 xs) :
    Calls Tryz.prog 64 #[.slice a xs.length ca, .slice b xs.length cb] w fun e w' => e = .returned (.bool true) ∧ w' = w := by
  have h1 := conv_run w g a ca xs ha
  have h2 := conv_run w g' b cb xs hb
  generalize str xs = s at *
  go_enter Tryz.func64, Tryz.ntmps64
  go_wp2
  go_ret
  exact ⟨by simp, rfl⟩

set_option maxHeartbeats 1000000 in
theorem l1Same_diff (w : World) (g g' : Nat) (a b : Option Addr) (ca cb : Nat) (xs ys : List Int) (ha : Rd w g a .u8 xs) (hb : Rd w g' b .u8 ys) (hx : Byt xs) (hy : Byt ys) (hne : xs ≠ ys) :
    Calls Tryz.prog 64 #[.slice a xs.length ca, .slice b ys.length cb] w fun e w' => e = .returned (.bool false) ∧ w' = w := by
  have h1 := conv_run w g a ca xs ha
  have h2 := conv_run w g' b cb ys hb
  have h3 : str xs ≠ str ys := fun h => hne (str_inj hx hy h)
  clear hne
  generalize str xs = s at *
  generalize str ys = t at *
  have H3 := hide h3
  clear h3
  go_enter Tryz.func64, Tryz.ntmps64
  go_wp2
  go_ret
  have e : (s.toList == t.toList) = false := by
    cases h : (s.toList == t.toList)
    · rfl
    · exact absurd (toList_inj (beq_iff_eq.1 h)) H3.out
  exact ⟨by rw [← e]; rfl, rfl⟩

theorem l1Same_any (w : World) (g g' : Nat) (a b : Option Addr) (ca cb : Nat) (xs ys : List Int) (ha : Rd w g a .u8 xs) (hb : Rd w g' b .u8 ys) (hx : Byt xs) (hy : Byt ys) :
    Calls Tryz.prog 64 #[.slice a xs.length ca, .slice b ys.length cb] w fun e w' => e = .returned (.bool (decide (xs = ys))) ∧ w' = w := by
  by_cases h : xs = ys
  · subst h
    simpa using l1Same_same w g g' a b ca cb xs ha hb
  · have := l1Same_diff w g g' a b ca cb xs ys ha hb hx hy h
    simpa [h] using this

end Go.Proofs.YtbdecibgejmelaaGreatDoor
