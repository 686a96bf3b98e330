
/-
  The program's HashEnd at a state that is not valid.
-/
import Derived.Test.YtljpjbojdekeiaaDoorLsK
namespace Go.Proofs.YtljpjbojdekeiaaDoor
set_option maxRecDepth 100000
open Go Go.RowKit

theorem zL_len : (hcl .u32 0 ⟨0, 0, 0, 0, 0, 0, 0, 0⟩ (List.replicate 128 0)).length = 137 := hcl_len .u32 0 ⟨0, 0, 0, 0, 0, 0, 0, 0⟩ (by simp)
theorem rowHd_32 : ∃ d, Tryd.prog.underlying 63 = some d ∧ d.isRow = true := by
  have h := undH_32
  cases hq : Tryd.prog.underlying 63 with
  | none => rw [hq] at h; simp at h
  | some d => rw [hq] at h; exact ⟨d, rfl, by simpa using h⟩

set_option maxRecDepth 20000 in
set_option maxHeartbeats 8000000 in
theorem readBad1 (w : World) (n : Int) (aw ar : Option Addr) (cw cr nw nr : Nat) (hb : ¬ (0 ≤ n ∧ n ≤ 1099511627776)) :
    Calls Tryd.prog 53 #[.agg #[.int .i64 n, .slice aw nw cw, .slice ar nr cr]] w fun e w' => Below w.heap.size w w' ∧ e = .returned (.tuple #[.agg (hcl .u32 0 ⟨0, 0, 0, 0, 0, 0, 0, 0⟩ (List.replicate 128 0)).toArray, .bool false]) := by
  have IH := fun W => isHashable_any W n
  simp only [decide_eq_false hb] at IH
  clear hb
  go_enter Tryd.func53, Tryd.ntmps53
  go_upto_region 1 with fail
  change Code.wp _ _ _ _ ((w.alloc (.cells #[.int .i64 n, .slice aw nw cw, .slice ar nr cr] 26)).alloc zH32)
  have T0 := C3.new w (.int .i64 n) (.slice aw nw cw) (.slice ar nr cr) 26
  have m0 : Below w.heap.size w (w.alloc (.cells #[.int .i64 n, .slice aw nw cw, .slice ar nr cr] 26)) := (Below.refl _ _).alloc (Nat.le_refl _) _
  have z0 : (w.alloc (.cells #[.int .i64 n, .slice aw nw cw, .slice ar nr cr] 26)).heap.size = w.heap.size + 1 := by simp
  generalize w.alloc (.cells #[.int .i64 n, .slice aw nw cw, .slice ar nr cr] 26) = wa at *
  have m1 : Below wa.heap.size wa (wa.alloc zH32) := (Below.refl _ _).alloc (Nat.le_refl _) _
  have H1 := HB.zero32 wa
  generalize wa.alloc zH32 = wb at *
  replace T0 := T0.up m1
  have N := nxt m0 m1
  rw [z0] at H1
  have lq := H1.lt
  clear m0 m1 z0
  have q0 := T0.c0
  have q1 := T0.c1
  have q2 := T0.c2
  go_wp2_with fail
  refine (IH _).mono ?_
  rintro e w2 ⟨rfl, rfl⟩
  clear q0 q1 q2
  have TH := H1.there
  have RR : (w2.setCells (w.heap.size + 1) 0 (hcl .u32 0 ⟨0, 0, 0, 0, 0, 0, 0, 0⟩ (List.replicate 128 0))).rangeAt (w.heap.size + 1) 0 (hcl .u32 0 ⟨0, 0, 0, 0, 0, 0, 0, 0⟩ (List.replicate 128 0)) := World.rangeAt_setCells_same w2 (w.heap.size + 1) 0 _ (by rw [zL_len]; exact TH)
  have N9 : Below w.heap.size w (w2.setCells (w.heap.size + 1) 0 (hcl .u32 0 ⟨0, 0, 0, 0, 0, 0, 0, 0⟩ (List.replicate 128 0))) := N.trans ((only_setCells w2 (w.heap.size + 1) _ 0).below (by omega))
  obtain ⟨d, hd, hrow⟩ := rowHd_32
  go_wp2_with (refine wpList_store_mid rfl 63 (.tmp 2) (.tmp 15) rfl (w.heap.size + 1) 0 (hcl .u32 0 ⟨0, 0, 0, 0, 0, 0, 0, 0⟩ (List.replicate 128 0)).toArray rfl ?hy ?hth ?hin ?hon ?_)
  case hy => kernel_rfl
  case hth => show w2.there (w.heap.size + 1) 0 (hcl .u32 0 ⟨0, 0, 0, 0, 0, 0, 0, 0⟩ (List.replicate 128 0)).length; rw [zL_len]; exact TH
  case hin => show _ = some (hcl .u32 0 ⟨0, 0, 0, 0, 0, 0, 0, 0⟩ (List.replicate 128 0)).length; rw [zL_len]; exact infoH_32
  case hon => exact hcl_one _ _ _ _
  exact bodyPost_ret (v := .tuple #[.agg (hcl .u32 0 ⟨0, 0, 0, 0, 0, 0, 0, 0⟩ (List.replicate 128 0)).toArray, .bool false]) (results_two Tryd.results53 _ _ (w.heap.size + 1) (hcl .u32 0 ⟨0, 0, 0, 0, 0, 0, 0, 0⟩ (List.replicate 128 0)) d (.bool false) rfl rfl RR hd hrow (by rw [zL_len]; exact infoH_32)) rfl ⟨N9, rfl⟩

set_option maxRecDepth 20000 in
set_option maxHeartbeats 8000000 in
theorem readBad2 (w : World) (n : Int) (aw ar : Option Addr) (cw cr nw nr : Nat) (hg : 0 ≤ n ∧ n ≤ 1099511627776) (hb : nw ≠ 32) :
    Calls Tryd.prog 53 #[.agg #[.int .i64 n, .slice aw nw cw, .slice ar nr cr]] w fun e w' => Below w.heap.size w w' ∧ e = .returned (.tuple #[.agg (hcl .u32 0 ⟨0, 0, 0, 0, 0, 0, 0, 0⟩ (List.replicate 128 0)).toArray, .bool false]) := by
  have IH := fun W => isHashable_any W n
  simp only [decide_eq_true hg] at IH
  have wl : ((nw : Int) == 32) = false := by simp; omega
  clear hb hg
  go_enter Tryd.func53, Tryd.ntmps53
  go_upto_region 1 with fail
  change Code.wp _ _ _ _ ((w.alloc (.cells #[.int .i64 n, .slice aw nw cw, .slice ar nr cr] 26)).alloc zH32)
  have T0 := C3.new w (.int .i64 n) (.slice aw nw cw) (.slice ar nr cr) 26
  have m0 : Below w.heap.size w (w.alloc (.cells #[.int .i64 n, .slice aw nw cw, .slice ar nr cr] 26)) := (Below.refl _ _).alloc (Nat.le_refl _) _
  have z0 : (w.alloc (.cells #[.int .i64 n, .slice aw nw cw, .slice ar nr cr] 26)).heap.size = w.heap.size + 1 := by simp
  generalize w.alloc (.cells #[.int .i64 n, .slice aw nw cw, .slice ar nr cr] 26) = wa at *
  have m1 : Below wa.heap.size wa (wa.alloc zH32) := (Below.refl _ _).alloc (Nat.le_refl _) _
  have H1 := HB.zero32 wa
  generalize wa.alloc zH32 = wb at *
  replace T0 := T0.up m1
  have N := nxt m0 m1
  rw [z0] at H1
  have lq := H1.lt
  clear m0 m1 z0
  have q0 := T0.c0
  have q1 := T0.c1
  have q2 := T0.c2
  go_wp2_with fail
  refine (IH _).mono ?_
  rintro e w2 ⟨rfl, rfl⟩
  have TH := H1.there
  have RR : (w2.setCells (w.heap.size + 1) 0 (hcl .u32 0 ⟨0, 0, 0, 0, 0, 0, 0, 0⟩ (List.replicate 128 0))).rangeAt (w.heap.size + 1) 0 (hcl .u32 0 ⟨0, 0, 0, 0, 0, 0, 0, 0⟩ (List.replicate 128 0)) := World.rangeAt_setCells_same w2 (w.heap.size + 1) 0 _ (by rw [zL_len]; exact TH)
  have N9 : Below w.heap.size w (w2.setCells (w.heap.size + 1) 0 (hcl .u32 0 ⟨0, 0, 0, 0, 0, 0, 0, 0⟩ (List.replicate 128 0))) := N.trans ((only_setCells w2 (w.heap.size + 1) _ 0).below (by omega))
  obtain ⟨d, hd, hrow⟩ := rowHd_32
  go_wp2_with (refine wpList_store_mid rfl 63 (.tmp 2) (.tmp 15) rfl (w.heap.size + 1) 0 (hcl .u32 0 ⟨0, 0, 0, 0, 0, 0, 0, 0⟩ (List.replicate 128 0)).toArray rfl ?hy ?hth ?hin ?hon ?_)
  case hy => kernel_rfl
  case hth => show w2.there (w.heap.size + 1) 0 (hcl .u32 0 ⟨0, 0, 0, 0, 0, 0, 0, 0⟩ (List.replicate 128 0)).length; rw [zL_len]; exact TH
  case hin => show _ = some (hcl .u32 0 ⟨0, 0, 0, 0, 0, 0, 0, 0⟩ (List.replicate 128 0)).length; rw [zL_len]; exact infoH_32
  case hon => exact hcl_one _ _ _ _
  exact bodyPost_ret (v := .tuple #[.agg (hcl .u32 0 ⟨0, 0, 0, 0, 0, 0, 0, 0⟩ (List.replicate 128 0)).toArray, .bool false]) (results_two Tryd.results53 _ _ (w.heap.size + 1) (hcl .u32 0 ⟨0, 0, 0, 0, 0, 0, 0, 0⟩ (List.replicate 128 0)) d (.bool false) rfl rfl RR hd hrow (by rw [zL_len]; exact infoH_32)) rfl ⟨N9, rfl⟩

set_option maxRecDepth 20000 in
set_option maxHeartbeats 8000000 in
theorem readBad3 (w : World) (n : Int) (aw ar : Option Addr) (cw cr nw nr : Nat) (n0 : 0 ≤ n) (n1 : n ≤ 1099511627776) (hl : nw = 32) (hr : ¬ (nr : Int) = n % 64) :
    Calls Tryd.prog 53 #[.agg #[.int .i64 n, .slice aw nw cw, .slice ar nr cr]] w fun e w' => Below w.heap.size w w' ∧ e = .returned (.tuple #[.agg (hcl .u32 0 ⟨0, 0, 0, 0, 0, 0, 0, 0⟩ (List.replicate 128 0)).toArray, .bool false]) := by
  have IH := fun W => isHashable_any W n
  simp only [decide_eq_true (And.intro n0 n1)] at IH
  have wl : ((nw : Int) == 32) = true := by rw [hl]; rfl
  clear hl
  go_enter Tryd.func53, Tryd.ntmps53
  go_upto_region 1 with fail
  change Code.wp _ _ _ _ ((w.alloc (.cells #[.int .i64 n, .slice aw nw cw, .slice ar nr cr] 26)).alloc zH32)
  have T0 := C3.new w (.int .i64 n) (.slice aw nw cw) (.slice ar nr cr) 26
  have m0 : Below w.heap.size w (w.alloc (.cells #[.int .i64 n, .slice aw nw cw, .slice ar nr cr] 26)) := (Below.refl _ _).alloc (Nat.le_refl _) _
  have z0 : (w.alloc (.cells #[.int .i64 n, .slice aw nw cw, .slice ar nr cr] 26)).heap.size = w.heap.size + 1 := by simp
  generalize w.alloc (.cells #[.int .i64 n, .slice aw nw cw, .slice ar nr cr] 26) = wa at *
  have m1 : Below wa.heap.size wa (wa.alloc zH32) := (Below.refl _ _).alloc (Nat.le_refl _) _
  have H1 := HB.zero32 wa
  generalize wa.alloc zH32 = wb at *
  replace T0 := T0.up m1
  have N := nxt m0 m1
  rw [z0] at H1
  have lq := H1.lt
  clear m0 m1 z0
  have q0 := T0.c0
  have q1 := T0.c1
  have q2 := T0.c2
  go_wp2_with fail
  refine (IH _).mono ?_
  rintro e w2 ⟨rfl, rfl⟩
  have z2 := HB.zero32 w2
  have m2 : Below w2.heap.size w2 (w2.alloc zH32) := (Below.refl _ _).alloc (Nat.le_refl _) _
  have lz := hcl_len .u32 n ⟨0, 0, 0, 0, 0, 0, 0, 0⟩ (R := List.replicate 128 0) (by simp)
  have HZ := hide (fun W (h : W.there w2.heap.size 0 137) => HB.of_range (k := .u32) (L := n) (C := ⟨0, 0, 0, 0, 0, 0, 0, 0⟩) (R := List.replicate 128 0) (by simp) (World.rangeAt_setCells_same W w2.heap.size 0 _ (by rw [lz]; exact h)) (World.there_setCells h _ _ _))
  go_upto_region 4 with (refine wpList_store_mid rfl 63 (.tmp 4) (.tmp 18) rfl w2.heap.size 0 (hcl .u32 n ⟨0, 0, 0, 0, 0, 0, 0, 0⟩ (List.replicate 128 0)).toArray rfl ?hy ?hth ?hin ?hon ?_)
  case hy => kernel_rfl
  case hth => show (w2.alloc zH32).there w2.heap.size 0 (hcl .u32 n ⟨0, 0, 0, 0, 0, 0, 0, 0⟩ (List.replicate 128 0)).length; rw [lz]; exact z2.there
  case hin => show _ = some (hcl .u32 n ⟨0, 0, 0, 0, 0, 0, 0, 0⟩ (List.replicate 128 0)).length; rw [lz]; exact infoH_32
  case hon => exact hcl_one _ _ _ _
  change Code.wp _ _ _ _ ((w2.alloc zH32).setCells w2.heap.size 0 (hcl .u32 n ⟨0, 0, 0, 0, 0, 0, 0, 0⟩ (List.replicate 128 0)))
  have H3 := HZ.out _ z2.there
  have O3 := only_setCells (w2.alloc zH32) w2.heap.size (hcl .u32 n ⟨0, 0, 0, 0, 0, 0, 0, 0⟩ (List.replicate 128 0)) 0
  have n3 : Below w2.heap.size w2 ((w2.alloc zH32).setCells w2.heap.size 0 (hcl .u32 n ⟨0, 0, 0, 0, 0, 0, 0, 0⟩ (List.replicate 128 0))) := m2.trans (O3.below (Nat.le_refl _))
  generalize (w2.alloc zH32).setCells w2.heap.size 0 (hcl .u32 n ⟨0, 0, 0, 0, 0, 0, 0, 0⟩ (List.replicate 128 0)) = W3 at *
  have N3 := nxt N n3
  have T3 := T0.up n3
  have H1' := H1.up n3
  clear T0 H1 N n3 O3 m2 z2 q0 q1 q2 HZ
  have RS := fun W => restSize_32 W n ⟨0, 0, 0, 0, 0, 0, 0, 0⟩ (List.replicate 128 0) (by simp) n0
  have LH := lz
  have RG := fun W (h : HB .u32 W w2.heap.size n ⟨0, 0, 0, 0, 0, 0, 0, 0⟩ (List.replicate 128 0)) => h.range
  generalize hv : hcl .u32 n ⟨0, 0, 0, 0, 0, 0, 0, 0⟩ (List.replicate 128 0) = vs at *
  obtain ⟨d, hd, hrow⟩ := rowHd_32
  obtain ⟨m, hm⟩ : ∃ m : Int, m = n % 64 := ⟨_, rfl⟩
  rw [← hm] at RS
  have nb : ((nr : Int) != m) = true := by rw [hm]; simpa using hr
  clear hm hr
  refine region_end 6 (fun i => [Fact.eq (.pointer (some ⟨w.heap.size, 2, none⟩)), Fact.eq (.slice ar nr cr), Fact.eq (.int .i64 (nr : Int)), Fact.eq (.agg vs.toArray), Fact.eq (.int .i64 m), Fact.eq (.bool true)].getD i Fact.no) (by kernel_rfl) (by kernel_rfl) rfl ?_ ?_
  · intro i hi
    obtain rfl | rfl | rfl | rfl | rfl | rfl : i = 0 ∨ i = 1 ∨ i = 2 ∨ i = 3 ∨ i = 4 ∨ i = 5 := by omega
    · refine step_pure rfl fun a ww hb hw hf => ?_
      have e1 : a.tmps[1]?.getD undef = .pointer (some ⟨w.heap.size, 0, none⟩) := gdv (hb.2.2 1 (by kernel_rfl))
      exact ⟨.pointer (some ⟨w.heap.size, 2, none⟩), by simp [go_sem, e1], rfl⟩
    · refine step_pure rfl fun a ww hb hw hf => ?_
      have e3 : a.tmps[19]?.getD undef = .pointer (some ⟨w.heap.size, 2, none⟩) := gdv (hf 0 19 (by kernel_rfl))
      have hc := (T3.up hw).c2
      exact ⟨.slice ar nr cr, by simp [go_sem, e3, hc], rfl⟩
    · refine step_pure rfl fun a ww hb hw hf => ?_
      have e3 : a.tmps[20]?.getD undef = .slice ar nr cr := gdv (hf 1 20 (by kernel_rfl))
      exact ⟨.int .i64 (nr : Int), by simp [go_sem, e3], rfl⟩
    · refine step_load rfl 63 (.tmp 4) rfl d 137 hd hrow infoH_32 fun a ww hb hw hf => ⟨_, 0, vs, hb.2.2 4 (by kernel_rfl), RG _ (H3.up hw), LH, rfl⟩
    · refine step_callv rfl 82 _ _ rfl (by kernel_rfl) fun a ww hb hw hf => ?_
      have e9 : a.tmps.getD 22 undef = .agg vs.toArray := hf 3 22 (by kernel_rfl)
      show Calls Tryd.prog 82 #[a.tmps.getD 22 undef] ww _
      rw [e9]
      exact (RS ww).mono (by rintro r w' ⟨rfl, n⟩; exact ⟨_, rfl, n, rfl⟩)
    · refine step_pure rfl fun a ww hb hw hf => ?_
      have e3 : a.tmps[21]?.getD undef = .int .i64 (nr : Int) := gdv (hf 2 21 (by kernel_rfl))
      have e4 : a.tmps[23]?.getD undef = .int .i64 m := gdv (hf 4 23 (by kernel_rfl))
      exact ⟨.bool true, by simp [go_sem, e3, e4, nb], rfl⟩
  intro A W4 hb' hw hF
  have e2 := hF 5 24 (by kernel_rfl)
  obtain ⟨vs2, hvs⟩ : ∃ vs2 : Nat → Value, ∀ d, A.tmps.getD d undef = vs2 d := ⟨_, fun _ => rfl⟩
  rw [hvs] at e2
  rw [puts_of (md := .any) (k := 6) (by kernel_rfl) rfl hb' vs2 hvs]
  clear hb' hF hvs
  have e3 : vs2 24 = .bool true := e2
  clear e2
  simp only [puts, e3, Act.put, List.setIfInBounds_toArray, List.set_cons_succ, List.set_cons_zero]
  clear e3
  have N4 := nxt N3 hw
  replace H1' := H1'.up hw
  clear hw N3 T3 H3 RG RS hv
  have TH := H1'.there
  have RR : (W4.setCells (w.heap.size + 1) 0 (hcl .u32 0 ⟨0, 0, 0, 0, 0, 0, 0, 0⟩ (List.replicate 128 0))).rangeAt (w.heap.size + 1) 0 (hcl .u32 0 ⟨0, 0, 0, 0, 0, 0, 0, 0⟩ (List.replicate 128 0)) := World.rangeAt_setCells_same W4 (w.heap.size + 1) 0 _ (by rw [zL_len]; exact TH)
  have N9 : Below w.heap.size w (W4.setCells (w.heap.size + 1) 0 (hcl .u32 0 ⟨0, 0, 0, 0, 0, 0, 0, 0⟩ (List.replicate 128 0))) := N4.trans ((only_setCells W4 (w.heap.size + 1) _ 0).below (by omega))
  go_wp2_with (refine wpList_store_mid rfl 63 (.tmp 2) (.tmp 25) rfl (w.heap.size + 1) 0 (hcl .u32 0 ⟨0, 0, 0, 0, 0, 0, 0, 0⟩ (List.replicate 128 0)).toArray rfl ?hy ?hth ?hin ?hon ?_)
  case hy => kernel_rfl
  case hth => show W4.there (w.heap.size + 1) 0 (hcl .u32 0 ⟨0, 0, 0, 0, 0, 0, 0, 0⟩ (List.replicate 128 0)).length; rw [zL_len]; exact TH
  case hin => show _ = some (hcl .u32 0 ⟨0, 0, 0, 0, 0, 0, 0, 0⟩ (List.replicate 128 0)).length; rw [zL_len]; exact infoH_32
  case hon => exact hcl_one _ _ _ _
  exact bodyPost_ret (v := .tuple #[.agg (hcl .u32 0 ⟨0, 0, 0, 0, 0, 0, 0, 0⟩ (List.replicate 128 0)).toArray, .bool false]) (results_two Tryd.results53 _ _ (w.heap.size + 1) (hcl .u32 0 ⟨0, 0, 0, 0, 0, 0, 0, 0⟩ (List.replicate 128 0)) d (.bool false) rfl rfl RR hd hrow (by rw [zL_len]; exact infoH_32)) rfl ⟨N9, rfl⟩

theorem readBad (w : World) (n : Int) (aw ar : Option Addr) (cw cr nw nr : Nat) (hv : vld n nw nr = false) :
    Calls Tryd.prog 53 #[.agg #[.int .i64 n, .slice aw nw cw, .slice ar nr cr]] w fun e w' => Below w.heap.size w w' ∧ e = .returned (.tuple #[.agg (hcl .u32 0 ⟨0, 0, 0, 0, 0, 0, 0, 0⟩ (List.replicate 128 0)).toArray, .bool false]) := by
  by_cases hg : 0 ≤ n ∧ n ≤ 1099511627776
  · by_cases hw : nw = 32
    · refine readBad3 w n aw ar cw cr nw nr hg.1 hg.2 hw fun h => ?_
      unfold vld at hv
      rw [← Int.tmod_eq_emod_of_nonneg hg.1] at h
      rw [decide_eq_true hg.1, decide_eq_true hg.2, hw, h] at hv
      simp at hv
    · exact readBad2 w n aw ar cw cr nw nr hg hw
  · exact readBad1 w n aw ar cw cr nw nr hg

set_option maxRecDepth 20000 in
set_option maxHeartbeats 8000000 in
theorem endBad (w : World) (n : Int) (aw ar : Option Addr) (cw cr nw nr : Nat) (hv : vld n nw nr = false) :
    Calls Tryd.prog 23 #[.agg #[.int .i64 n, .slice aw nw cw, .slice ar nr cr]] w fun e w' => NewRow w.heap.size w' e .u8 [] ∧ Below w.heap.size w w' := by
  have RH := hide (fun V => readBad V n aw ar cw cr nw nr hv)
  have T0 := C3.new w (.int .i64 n) (.slice aw nw cw) (.slice ar nr cr) 26
  have m0 : Below w.heap.size w (w.alloc (.cells #[.int .i64 n, .slice aw nw cw, .slice ar nr cr] 26)) := (Below.refl _ _).alloc (Nat.le_refl _) _
  clear hv
  go_enter Tryd.func23, Tryd.ntmps23
  go_upto_region 1 with fail
  generalize w.alloc (.cells #[.int .i64 n, .slice aw nw cw, .slice ar nr cr] 26) = wb at *
  have q0 := T0.c0
  have q1 := T0.c1
  have q2 := T0.c2
  go_wp2_with fail
  refine (RH.out wb).mono ?_
  rintro e w1 ⟨n1, rfl⟩
  have HZ := HB.zero32 w1
  have TH1 := HZ.there
  have na : Below w1.heap.size w1 (w1.alloc zH32) := (Below.refl _ _).alloc (Nat.le_refl _) _
  have L1 := hide zL_len
  have O1 := hcl_one .u32 0 ⟨0, 0, 0, 0, 0, 0, 0, 0⟩ (List.replicate 128 0)
  generalize hcl .u32 0 ⟨0, 0, 0, 0, 0, 0, 0, 0⟩ (List.replicate 128 0) = vs at *
  have O2 := only_setCells (w1.alloc zH32) w1.heap.size vs 0
  have N1 := nxt m0 n1
  have N2 : Below w.heap.size w ((w1.alloc zH32).setCells w1.heap.size 0 vs) := (nxt N1 na).trans (O2.below N1.size)
  clear q0 q1 q2 RH HZ O2 na n1 m0
  go_upto_region 2 with (refine wpList_store_mid rfl 63 (.tmp 3) (.tmp 8) rfl w1.heap.size 0 vs.toArray rfl rfl ?hth ?hin ?hon ?_)
  case hth => exact (show (w1.alloc zH32).there w1.heap.size 0 vs.length by rw [L1.out]; exact TH1)
  case hin => show _ = some vs.length; rw [L1.out]; exact infoH_32
  case hon => exact O1
  change Code.wp _ _ _ _ ((w1.alloc zH32).setCells w1.heap.size 0 vs)
  generalize (w1.alloc zH32).setCells w1.heap.size 0 vs = w2 at *
  go_wp2
  go_ret
  exact ⟨⟨none, 0, w.heap.size, rfl, fun h => absurd h (Nat.lt_irrefl 0), fun _ => rfl, Nat.le_refl _, Nat.le_refl _⟩, N2⟩

theorem implEnd_any (w : World) (L : Int) (gw : Nat) (aw : Option Addr) (cw : Nat) (ws : List Int) (hW : Rd w gw aw .u8 ws) (bW : Byt ws) (gr : Nat) (ar : Option Addr) (cr : Nat) (rs : List Int) (hR : Rd w gr ar .u8 rs) (bR : Byt rs) (kR : ar = none → cr = 0) (hT : HasT w 1 kL) :
    Calls Tryd.prog 23 #[.agg #[.int .i64 L, .slice aw ws.length cw, .slice ar rs.length cr]] w fun e w' => NewRow w.heap.size w' e .u8 (endA L ws rs) ∧ Below w.heap.size w w' := by
  unfold endA
  cases hv : vld L ws.length rs.length with
  | false => exact endBad w L aw ar cw cr _ _ hv
  | true =>
    obtain ⟨L0, L1, lw, lr⟩ := vld_true hv
    obtain ⟨l, rfl⟩ : ∃ l : Nat, L = (l : Int) := ⟨L.toNat, by omega⟩
    have e : (rs ++ List.replicate (128 - rs.length) 0).take (l % 64) = rs := by
      rw [show l % 64 = rs.length by omega]
      exact List.take_left
    have h := implEnd_32 w l gw aw cw ws hW bW gr ar cr rs hR bR kR lw (by omega) (by omega) hT (cOf ws) (cOf_wd ws) (cOf_ok bW)
    unfold endL32 at h
    rw [e] at h
    exact h
end Go.Proofs.YtljpjbojdekeiaaDoor
