import Derived.Test.YtblkjpmkikhpbaaDoorGL31

/-
  The model's l5Sum.
-/
namespace Go.Proofs.YtblkjpmkikhpbaaDoor
set_option maxRecDepth 100000
open Go Go.RowKit

def wA (pZ qZ : Int) : Int := pZ * qZ
def wF (pX pY qX qY d : Int) : Int := d * ((pX * qX) * (pY * qY))
def wL (pX pY pZ qX qY qZ d : Int) : Int := wA pZ qZ * wA pZ qZ - wF pX pY qX qY d
def wM (pX pY pZ qX qY qZ d : Int) : Int := wA pZ qZ * wA pZ qZ + wF pX pY qX qY d
def wX (pX pY pZ qX qY qZ d : Int) : Int := wA pZ qZ * wL pX pY pZ qX qY qZ d * ((pX + pY) * (qX + qY) - pX * qX - pY * qY)
def wY (pX pY pZ qX qY qZ d : Int) : Int := wA pZ qZ * wM pX pY pZ qX qY qZ d * (pY * qY + pX * qX)
def wZ (pX pY pZ qX qY qZ d : Int) : Int := wL pX pY pZ qX qY qZ d * wM pX pY pZ qX qY qZ d

theorem elt3_new (W : World) (t : TypeId) {a b c : Nat → Int} {A B C : Int} (ha : L16 a ∧ s16 a 16 % PP = A % PP) (hb : L16 b ∧ s16 b 16 % PP = B % PP) (hc : L16 c ∧ s16 c 16 % PP = C % PP) :
    Elt3 (W.alloc (.cells (c48 a b c).toArray t)) W.heap.size A B C := by
  have e : (W.alloc (.cells (c48 a b c).toArray t)).heap[W.heap.size]? = some (.cells (c48 a b c).toArray t) := heap_alloc_last _ _
  refine ⟨a, b, c, fun j v hv => ?_, by simp, ha, hb, hc⟩
  unfold World.cell?
  simp only
  rw [e]
  simpa using hv
theorem elt_new (W : World) (t : TypeId) {a : Nat → Int} {A : Int} (ha : L16 a ∧ s16 a 16 % PP = A % PP) : Elt (W.alloc (.cells (a16 a) t)) W.heap.size 0 A :=
  Elt.ofR (R16.ofBlk (blk16 W t a)) ha.1 ha.2

set_option maxHeartbeats 4000000 in
theorem l5Sum_any (w : World) (a b c a' b' c' e : Nat → Int) (pX pY pZ qX qY qZ d : Int) (ha : L16 a ∧ s16 a 16 % PP = pX % PP) (hb : L16 b ∧ s16 b 16 % PP = pY % PP) (hc : L16 c ∧ s16 c 16 % PP = pZ % PP)
    (ha' : L16 a' ∧ s16 a' 16 % PP = qX % PP) (hb' : L16 b' ∧ s16 b' 16 % PP = qY % PP) (hc' : L16 c' ∧ s16 c' 16 % PP = qZ % PP) (he : L16 e ∧ s16 e 16 % PP = d % PP) :
    Calls Tryd.prog 98 #[ag48 a b c, ag48 a' b' c', ag16 e] w fun r w' => ∃ x y z, r = .returned (ag48 x y z) ∧ (L16 x ∧ s16 x 16 % PP = wX pX pY pZ qX qY qZ d % PP) ∧ (L16 y ∧ s16 y 16 % PP = wY pX pY pZ qX qY qZ d % PP) ∧ (L16 z ∧ s16 z 16 % PP = wZ pX pY pZ qX qY qZ d % PP) ∧ Below w.heap.size w w' := by
  show Calls Tryd.prog 98 #[.agg (c48 a b c).toArray, .agg (c48 a' b' c').toArray, .agg (a16 e)] w _
  have H1 := elt3_new w 103 ha hb hc
  have m1 : Below w.heap.size w (w.alloc (.cells (c48 a b c).toArray 103)) := (Below.refl _ _).alloc (Nat.le_refl _) _
  have s1 : (w.alloc (.cells (c48 a b c).toArray 103)).heap.size = w.heap.size + 1 := by simp
  have H2 := fun W => elt3_new W 103 ha' hb' hc'
  have H3 := fun W => elt_new W 36 he
  obtain ⟨V1, hV1⟩ : ∃ V, V = (c48 a b c).toArray := ⟨_, rfl⟩
  obtain ⟨V2, hV2⟩ : ∃ V, V = (c48 a' b' c').toArray := ⟨_, rfl⟩
  obtain ⟨V3, hV3⟩ : ∃ V, V = a16 e := ⟨_, rfl⟩
  rw [← hV1] at H1 m1 s1 ⊢
  simp only [← hV2] at H2 ⊢
  simp only [← hV3] at H3 ⊢
  clear hV1 hV2 hV3 ha hb hc ha' hb' hc' he
  go_enter Tryd.func98, Tryd.ntmps98
  go_upto_region 1 with fail
  generalize w.alloc (.cells V1 103) = wa at *
  have H2' := H2 wa
  have m2 : Below wa.heap.size wa (wa.alloc (.cells V2 103)) := (Below.refl _ _).alloc (Nat.le_refl _) _
  have s2 : (wa.alloc (.cells V2 103)).heap.size = wa.heap.size + 1 := by simp
  rw [s1] at H2' s2
  generalize wa.alloc (.cells V2 103) = wb at *
  have H3' := H3 wb
  have m3 : Below wb.heap.size wb (wb.alloc (.cells V3 36)) := (Below.refl _ _).alloc (Nat.le_refl _) _
  have s3 : (wb.alloc (.cells V3 36)).heap.size = wb.heap.size + 1 := by simp
  rw [s2] at H3' s3
  generalize wb.alloc (.cells V3 36) = wc at *
  have TR : (wc.alloc zObj48).there wc.heap.size 0 48 := there_new wc _ _
  have m4 : Below wc.heap.size wc (wc.alloc zObj48) := (Below.refl _ _).alloc (Nat.le_refl _) _
  rw [s3] at TR
  have HP := ((H1.up m2).up m3).up m4
  have HQ := (H2'.up m3).up m4
  have HD := H3'.up m4
  have N := nxt (nxt (nxt m1 m2) m3) m4
  clear H1 H2 H3 H2' H3' m1 m2 m3 s1 s2 s3 m4
  obtain ⟨wr, hwr⟩ : ∃ W, W = wc.alloc zObj48 := ⟨_, rfl⟩
  rw [← hwr] at TR HP HQ HD N
  change Code.wp _ _ _ _ (wc.alloc zObj48)
  rw [← hwr]
  clear hwr
  refine region_new16 6 5 4 7 19 _ (fun i => [Fact.eq (.pointer (some ⟨w.heap.size, 32, none⟩)), EL (pZ), Fact.eq (.pointer (some ⟨w.heap.size + 1, 32, none⟩)), EL (qZ), EL ((pZ) * (qZ)), NB wr 16].getD i Fact.no) ((pZ) * (qZ)) (by kernel_rfl) rfl rfl rfl (by kernel_rfl) (by kernel_rfl) rfl rfl ?_ ?_
  · intro i hi
    obtain rfl | rfl | rfl | rfl | rfl | rfl : i = 0 ∨ i = 1 ∨ i = 2 ∨ i = 3 ∨ i = 4 ∨ i = 5 := by omega
    · exact step_fld rfl 103 3 2 rfl (by kernel_rfl) _ _ rfl (fz48 _) rfl
    · exact step_elf rfl 36 15 0 rfl Go.Proofs.YtblkjpmkikhpbaaDoor.u50 i50 (by kernel_rfl) _ _ rfl _ HP.z rfl
    · exact step_fld rfl 103 4 2 rfl (by kernel_rfl) _ _ rfl (fz48 _) rfl
    · exact step_elf rfl 36 17 2 rfl Go.Proofs.YtblkjpmkikhpbaaDoor.u50 i50 (by kernel_rfl) _ _ rfl _ HQ.z rfl
    · exact step_mul rfl 16 18 1 3 _ _ rfl (by kernel_rfl) (by kernel_rfl) rfl rfl rfl
    · exact step_new16 rfl rfl rfl
  intro vs1 q7 W1 v7 h1 n1 E7 T1
  clear T1
  replace HP := HP.up n1
  replace HQ := HQ.up n1
  replace HD := HD.up n1
  replace N := nxt N n1
  replace TR := there_up (by omega) TR n1
  clear n1
  obtain ⟨x7, g7⟩ : ∃ e, e = (pZ) * (qZ) := ⟨_, rfl⟩
  rw [← g7] at E7
  simp only [puts, v7, Act.put, List.setIfInBounds_toArray, List.set_cons_succ, List.set_cons_zero]
  clear v7
  go_upto_region 2 with fail
  refine region_new16 4 3 2 8 22 _ (fun i => [EL (x7), EL (x7), EL ((x7) * (x7)), NB W1 16].getD i Fact.no) ((x7) * (x7)) (by kernel_rfl) rfl rfl rfl (by kernel_rfl) (by kernel_rfl) rfl rfl ?_ ?_
  · intro i hi
    obtain rfl | rfl | rfl | rfl : i = 0 ∨ i = 1 ∨ i = 2 ∨ i = 3 := by omega
    · exact step_el rfl 36 7 rfl Go.Proofs.YtblkjpmkikhpbaaDoor.u50 i50 (by kernel_rfl) _ _ rfl _ E7 rfl
    · exact step_el rfl 36 7 rfl Go.Proofs.YtblkjpmkikhpbaaDoor.u50 i50 (by kernel_rfl) _ _ rfl _ E7 rfl
    · exact step_mul rfl 20 21 0 1 _ _ rfl (by kernel_rfl) (by kernel_rfl) rfl rfl rfl
    · exact step_new16 rfl rfl rfl
  intro vs2 q8 W2 v8 h2 n2 E8 T2
  clear T2
  replace HP := HP.up n2
  replace HQ := HQ.up n2
  replace HD := HD.up n2
  replace E7 := E7.up n2
  replace N := nxt N n2
  replace TR := there_up (by omega) TR n2
  clear n2
  obtain ⟨x8, g8⟩ : ∃ e, e = (x7) * (x7) := ⟨_, rfl⟩
  rw [← g8] at E8
  simp only [puts, v8, Act.put, List.setIfInBounds_toArray, List.set_cons_succ, List.set_cons_zero]
  clear v8
  go_upto_region 3 with fail
  refine region_new16 6 5 4 9 27 _ (fun i => [Fact.eq (.pointer (some ⟨w.heap.size, 0, none⟩)), EL (pX), Fact.eq (.pointer (some ⟨w.heap.size + 1, 0, none⟩)), EL (qX), EL ((pX) * (qX)), NB W2 16].getD i Fact.no) ((pX) * (qX)) (by kernel_rfl) rfl rfl rfl (by kernel_rfl) (by kernel_rfl) rfl rfl ?_ ?_
  · intro i hi
    obtain rfl | rfl | rfl | rfl | rfl | rfl : i = 0 ∨ i = 1 ∨ i = 2 ∨ i = 3 ∨ i = 4 ∨ i = 5 := by omega
    · exact step_fld rfl 103 3 0 rfl (by kernel_rfl) _ _ rfl (fx48 _) rfl
    · exact step_elf rfl 36 23 0 rfl Go.Proofs.YtblkjpmkikhpbaaDoor.u50 i50 (by kernel_rfl) _ _ rfl _ HP.x rfl
    · exact step_fld rfl 103 4 0 rfl (by kernel_rfl) _ _ rfl (fx48 _) rfl
    · exact step_elf rfl 36 25 2 rfl Go.Proofs.YtblkjpmkikhpbaaDoor.u50 i50 (by kernel_rfl) _ _ rfl _ HQ.x rfl
    · exact step_mul rfl 24 26 1 3 _ _ rfl (by kernel_rfl) (by kernel_rfl) rfl rfl rfl
    · exact step_new16 rfl rfl rfl
  intro vs3 q9 W3 v9 h3 n3 E9 T3
  clear T3
  replace HP := HP.up n3
  replace HQ := HQ.up n3
  replace HD := HD.up n3
  replace E7 := E7.up n3
  replace E8 := E8.up n3
  replace N := nxt N n3
  replace TR := there_up (by omega) TR n3
  clear n3
  obtain ⟨x9, g9⟩ : ∃ e, e = (pX) * (qX) := ⟨_, rfl⟩
  rw [← g9] at E9
  simp only [puts, v9, Act.put, List.setIfInBounds_toArray, List.set_cons_succ, List.set_cons_zero]
  clear v9
  go_upto_region 4 with fail
  refine region_new16 6 5 4 10 32 _ (fun i => [Fact.eq (.pointer (some ⟨w.heap.size, 16, none⟩)), EL (pY), Fact.eq (.pointer (some ⟨w.heap.size + 1, 16, none⟩)), EL (qY), EL ((pY) * (qY)), NB W3 16].getD i Fact.no) ((pY) * (qY)) (by kernel_rfl) rfl rfl rfl (by kernel_rfl) (by kernel_rfl) rfl rfl ?_ ?_
  · intro i hi
    obtain rfl | rfl | rfl | rfl | rfl | rfl : i = 0 ∨ i = 1 ∨ i = 2 ∨ i = 3 ∨ i = 4 ∨ i = 5 := by omega
    · exact step_fld rfl 103 3 1 rfl (by kernel_rfl) _ _ rfl (fy48 _) rfl
    · exact step_elf rfl 36 28 0 rfl Go.Proofs.YtblkjpmkikhpbaaDoor.u50 i50 (by kernel_rfl) _ _ rfl _ HP.y rfl
    · exact step_fld rfl 103 4 1 rfl (by kernel_rfl) _ _ rfl (fy48 _) rfl
    · exact step_elf rfl 36 30 2 rfl Go.Proofs.YtblkjpmkikhpbaaDoor.u50 i50 (by kernel_rfl) _ _ rfl _ HQ.y rfl
    · exact step_mul rfl 29 31 1 3 _ _ rfl (by kernel_rfl) (by kernel_rfl) rfl rfl rfl
    · exact step_new16 rfl rfl rfl
  intro vs4 q10 W4 v10 h4 n4 E10 T4
  clear T4
  replace HP := HP.up n4
  replace HQ := HQ.up n4
  replace HD := HD.up n4
  replace E7 := E7.up n4
  replace E8 := E8.up n4
  replace E9 := E9.up n4
  replace N := nxt N n4
  replace TR := there_up (by omega) TR n4
  clear n4
  obtain ⟨x10, g10⟩ : ∃ e, e = (pY) * (qY) := ⟨_, rfl⟩
  rw [← g10] at E10
  simp only [puts, v10, Act.put, List.setIfInBounds_toArray, List.set_cons_succ, List.set_cons_zero]
  clear v10
  go_upto_region 5 with fail
  refine region_new16 6 5 4 11 37 _ (fun i => [EL (d), EL (x9), EL (x10), EL ((x9) * (x10)), EL ((d) * ((x9) * (x10))), NB W4 16].getD i Fact.no) ((d) * ((x9) * (x10))) (by kernel_rfl) rfl rfl rfl (by kernel_rfl) (by kernel_rfl) rfl rfl ?_ ?_
  · intro i hi
    obtain rfl | rfl | rfl | rfl | rfl | rfl : i = 0 ∨ i = 1 ∨ i = 2 ∨ i = 3 ∨ i = 4 ∨ i = 5 := by omega
    · exact step_el rfl 36 5 rfl Go.Proofs.YtblkjpmkikhpbaaDoor.u50 i50 (by kernel_rfl) _ _ rfl _ HD rfl
    · exact step_el rfl 36 9 rfl Go.Proofs.YtblkjpmkikhpbaaDoor.u50 i50 (by kernel_rfl) _ _ rfl _ E9 rfl
    · exact step_el rfl 36 10 rfl Go.Proofs.YtblkjpmkikhpbaaDoor.u50 i50 (by kernel_rfl) _ _ rfl _ E10 rfl
    · exact step_mul rfl 34 35 1 2 _ _ rfl (by kernel_rfl) (by kernel_rfl) rfl rfl rfl
    · exact step_mul rfl 33 36 0 3 _ _ rfl (by kernel_rfl) (by kernel_rfl) rfl rfl rfl
    · exact step_new16 rfl rfl rfl
  intro vs5 q11 W5 v11 h5 n5 E11 T5
  clear T5
  replace HP := HP.up n5
  replace HQ := HQ.up n5
  replace HD := HD.up n5
  replace E7 := E7.up n5
  replace E8 := E8.up n5
  replace E9 := E9.up n5
  replace E10 := E10.up n5
  replace N := nxt N n5
  replace TR := there_up (by omega) TR n5
  clear n5
  obtain ⟨x11, g11⟩ : ∃ e, e = (d) * ((x9) * (x10)) := ⟨_, rfl⟩
  rw [← g11] at E11
  simp only [puts, v11, Act.put, List.setIfInBounds_toArray, List.set_cons_succ, List.set_cons_zero]
  clear v11
  go_upto_region 6 with fail
  refine region_new16 4 3 2 12 40 _ (fun i => [EL (x8), EL (x11), EL ((x8) - (x11)), NB W5 16].getD i Fact.no) ((x8) - (x11)) (by kernel_rfl) rfl rfl rfl (by kernel_rfl) (by kernel_rfl) rfl rfl ?_ ?_
  · intro i hi
    obtain rfl | rfl | rfl | rfl : i = 0 ∨ i = 1 ∨ i = 2 ∨ i = 3 := by omega
    · exact step_el rfl 36 8 rfl Go.Proofs.YtblkjpmkikhpbaaDoor.u50 i50 (by kernel_rfl) _ _ rfl _ E8 rfl
    · exact step_el rfl 36 11 rfl Go.Proofs.YtblkjpmkikhpbaaDoor.u50 i50 (by kernel_rfl) _ _ rfl _ E11 rfl
    · exact step_sub rfl 38 39 0 1 _ _ rfl (by kernel_rfl) (by kernel_rfl) rfl rfl rfl
    · exact step_new16 rfl rfl rfl
  intro vs6 q12 W6 v12 h6 n6 E12 T6
  clear T6
  replace HP := HP.up n6
  replace HQ := HQ.up n6
  replace HD := HD.up n6
  replace E7 := E7.up n6
  replace E8 := E8.up n6
  replace E9 := E9.up n6
  replace E10 := E10.up n6
  replace E11 := E11.up n6
  replace N := nxt N n6
  replace TR := there_up (by omega) TR n6
  clear n6
  obtain ⟨x12, g12⟩ : ∃ e, e = (x8) - (x11) := ⟨_, rfl⟩
  rw [← g12] at E12
  simp only [puts, v12, Act.put, List.setIfInBounds_toArray, List.set_cons_succ, List.set_cons_zero]
  clear v12
  go_upto_region 7 with fail
  refine region_new16 4 3 2 13 43 _ (fun i => [EL (x8), EL (x11), EL ((x8) + (x11)), NB W6 16].getD i Fact.no) ((x8) + (x11)) (by kernel_rfl) rfl rfl rfl (by kernel_rfl) (by kernel_rfl) rfl rfl ?_ ?_
  · intro i hi
    obtain rfl | rfl | rfl | rfl : i = 0 ∨ i = 1 ∨ i = 2 ∨ i = 3 := by omega
    · exact step_el rfl 36 8 rfl Go.Proofs.YtblkjpmkikhpbaaDoor.u50 i50 (by kernel_rfl) _ _ rfl _ E8 rfl
    · exact step_el rfl 36 11 rfl Go.Proofs.YtblkjpmkikhpbaaDoor.u50 i50 (by kernel_rfl) _ _ rfl _ E11 rfl
    · exact step_add rfl 41 42 0 1 _ _ rfl (by kernel_rfl) (by kernel_rfl) rfl rfl rfl
    · exact step_new16 rfl rfl rfl
  intro vs7 q13 W7 v13 h7 n7 E13 T7
  clear T7
  replace HP := HP.up n7
  replace HQ := HQ.up n7
  replace HD := HD.up n7
  replace E7 := E7.up n7
  replace E8 := E8.up n7
  replace E9 := E9.up n7
  replace E10 := E10.up n7
  replace E11 := E11.up n7
  replace E12 := E12.up n7
  replace N := nxt N n7
  replace TR := there_up (by omega) TR n7
  clear n7
  obtain ⟨x13, g13⟩ : ∃ e, e = (x8) + (x11) := ⟨_, rfl⟩
  rw [← g13] at E13
  simp only [puts, v13, Act.put, List.setIfInBounds_toArray, List.set_cons_succ, List.set_cons_zero]
  clear v13
  go_upto_region 8 with fail
  refine region_new16 16 15 14 14 58 _ (fun i => [Fact.eq (.pointer (some ⟨w.heap.size, 0, none⟩)), EL (pX), Fact.eq (.pointer (some ⟨w.heap.size, 16, none⟩)), EL (pY), EL ((pX) + (pY)), Fact.eq (.pointer (some ⟨w.heap.size + 1, 0, none⟩)), EL (qX), Fact.eq (.pointer (some ⟨w.heap.size + 1, 16, none⟩)), EL (qY), EL ((qX) + (qY)), EL (((pX) + (pY)) * ((qX) + (qY))), EL (x9), EL ((((pX) + (pY)) * ((qX) + (qY))) - (x9)), EL (x10), EL (((((pX) + (pY)) * ((qX) + (qY))) - (x9)) - (x10)), NB W7 16].getD i Fact.no) (((((pX) + (pY)) * ((qX) + (qY))) - (x9)) - (x10)) (by kernel_rfl) rfl rfl rfl (by kernel_rfl) (by kernel_rfl) rfl rfl ?_ ?_
  · intro i hi
    obtain rfl | rfl | rfl | rfl | rfl | rfl | rfl | rfl | rfl | rfl | rfl | rfl | rfl | rfl | rfl | rfl : i = 0 ∨ i = 1 ∨ i = 2 ∨ i = 3 ∨ i = 4 ∨ i = 5 ∨ i = 6 ∨ i = 7 ∨ i = 8 ∨ i = 9 ∨ i = 10 ∨ i = 11 ∨ i = 12 ∨ i = 13 ∨ i = 14 ∨ i = 15 := by omega
    · exact step_fld rfl 103 3 0 rfl (by kernel_rfl) _ _ rfl (fx48 _) rfl
    · exact step_elf rfl 36 44 0 rfl Go.Proofs.YtblkjpmkikhpbaaDoor.u50 i50 (by kernel_rfl) _ _ rfl _ HP.x rfl
    · exact step_fld rfl 103 3 1 rfl (by kernel_rfl) _ _ rfl (fy48 _) rfl
    · exact step_elf rfl 36 46 2 rfl Go.Proofs.YtblkjpmkikhpbaaDoor.u50 i50 (by kernel_rfl) _ _ rfl _ HP.y rfl
    · exact step_add rfl 45 47 1 3 _ _ rfl (by kernel_rfl) (by kernel_rfl) rfl rfl rfl
    · exact step_fld rfl 103 4 0 rfl (by kernel_rfl) _ _ rfl (fx48 _) rfl
    · exact step_elf rfl 36 49 5 rfl Go.Proofs.YtblkjpmkikhpbaaDoor.u50 i50 (by kernel_rfl) _ _ rfl _ HQ.x rfl
    · exact step_fld rfl 103 4 1 rfl (by kernel_rfl) _ _ rfl (fy48 _) rfl
    · exact step_elf rfl 36 51 7 rfl Go.Proofs.YtblkjpmkikhpbaaDoor.u50 i50 (by kernel_rfl) _ _ rfl _ HQ.y rfl
    · exact step_add rfl 50 52 6 8 _ _ rfl (by kernel_rfl) (by kernel_rfl) rfl rfl rfl
    · exact step_mul rfl 48 53 4 9 _ _ rfl (by kernel_rfl) (by kernel_rfl) rfl rfl rfl
    · exact step_el rfl 36 9 rfl Go.Proofs.YtblkjpmkikhpbaaDoor.u50 i50 (by kernel_rfl) _ _ rfl _ E9 rfl
    · exact step_sub rfl 54 55 10 11 _ _ rfl (by kernel_rfl) (by kernel_rfl) rfl rfl rfl
    · exact step_el rfl 36 10 rfl Go.Proofs.YtblkjpmkikhpbaaDoor.u50 i50 (by kernel_rfl) _ _ rfl _ E10 rfl
    · exact step_sub rfl 56 57 12 13 _ _ rfl (by kernel_rfl) (by kernel_rfl) rfl rfl rfl
    · exact step_new16 rfl rfl rfl
  intro vs8 q14 W8 v14 h8 n8 E14 T8
  clear T8
  replace HP := HP.up n8
  replace HQ := HQ.up n8
  replace HD := HD.up n8
  replace E7 := E7.up n8
  replace E8 := E8.up n8
  replace E9 := E9.up n8
  replace E10 := E10.up n8
  replace E11 := E11.up n8
  replace E12 := E12.up n8
  replace E13 := E13.up n8
  replace N := nxt N n8
  replace TR := there_up (by omega) TR n8
  clear n8
  obtain ⟨x14, g14⟩ : ∃ e, e = ((((pX) + (pY)) * ((qX) + (qY))) - (x9)) - (x10) := ⟨_, rfl⟩
  rw [← g14] at E14
  simp only [puts, v14, Act.put, List.setIfInBounds_toArray, List.set_cons_succ, List.set_cons_zero]
  clear v14
  go_upto_region 9 with fail
  refine region_put48 16 15 6 74 _ (fun i => [EL (x7), EL (x12), EL ((x7) * (x12)), EL (x14), EL (((x7) * (x12)) * (x14)), EL (x7), EL (x13), EL ((x7) * (x13)), EL (x10), EL (x9), EL ((x10) + (x9)), EL (((x7) * (x13)) * ((x10) + (x9))), EL (x12), EL (x13), EL ((x12) * (x13)), E3 (((x7) * (x12)) * (x14)) (((x7) * (x13)) * ((x10) + (x9))) ((x12) * (x13))].getD i Fact.no) (((x7) * (x12)) * (x14)) (((x7) * (x13)) * ((x10) + (x9))) ((x12) * (x13)) _ (by kernel_rfl) rfl rfl rfl (by kernel_rfl) rfl TR (by kernel_rfl) rfl ?_ ?_
  · intro i hi
    obtain rfl | rfl | rfl | rfl | rfl | rfl | rfl | rfl | rfl | rfl | rfl | rfl | rfl | rfl | rfl | rfl : i = 0 ∨ i = 1 ∨ i = 2 ∨ i = 3 ∨ i = 4 ∨ i = 5 ∨ i = 6 ∨ i = 7 ∨ i = 8 ∨ i = 9 ∨ i = 10 ∨ i = 11 ∨ i = 12 ∨ i = 13 ∨ i = 14 ∨ i = 15 := by omega
    · exact step_el rfl 36 7 rfl Go.Proofs.YtblkjpmkikhpbaaDoor.u50 i50 (by kernel_rfl) _ _ rfl _ E7 rfl
    · exact step_el rfl 36 12 rfl Go.Proofs.YtblkjpmkikhpbaaDoor.u50 i50 (by kernel_rfl) _ _ rfl _ E12 rfl
    · exact step_mul rfl 59 60 0 1 _ _ rfl (by kernel_rfl) (by kernel_rfl) rfl rfl rfl
    · exact step_el rfl 36 14 rfl Go.Proofs.YtblkjpmkikhpbaaDoor.u50 i50 (by kernel_rfl) _ _ rfl _ E14 rfl
    · exact step_mul rfl 61 62 2 3 _ _ rfl (by kernel_rfl) (by kernel_rfl) rfl rfl rfl
    · exact step_el rfl 36 7 rfl Go.Proofs.YtblkjpmkikhpbaaDoor.u50 i50 (by kernel_rfl) _ _ rfl _ E7 rfl
    · exact step_el rfl 36 13 rfl Go.Proofs.YtblkjpmkikhpbaaDoor.u50 i50 (by kernel_rfl) _ _ rfl _ E13 rfl
    · exact step_mul rfl 64 65 5 6 _ _ rfl (by kernel_rfl) (by kernel_rfl) rfl rfl rfl
    · exact step_el rfl 36 10 rfl Go.Proofs.YtblkjpmkikhpbaaDoor.u50 i50 (by kernel_rfl) _ _ rfl _ E10 rfl
    · exact step_el rfl 36 9 rfl Go.Proofs.YtblkjpmkikhpbaaDoor.u50 i50 (by kernel_rfl) _ _ rfl _ E9 rfl
    · exact step_add rfl 67 68 8 9 _ _ rfl (by kernel_rfl) (by kernel_rfl) rfl rfl rfl
    · exact step_mul rfl 66 69 7 10 _ _ rfl (by kernel_rfl) (by kernel_rfl) rfl rfl rfl
    · exact step_el rfl 36 12 rfl Go.Proofs.YtblkjpmkikhpbaaDoor.u50 i50 (by kernel_rfl) _ _ rfl _ E12 rfl
    · exact step_el rfl 36 13 rfl Go.Proofs.YtblkjpmkikhpbaaDoor.u50 i50 (by kernel_rfl) _ _ rfl _ E13 rfl
    · exact step_mul rfl 71 72 12 13 _ _ rfl (by kernel_rfl) (by kernel_rfl) rfl rfl rfl
    · exact step_b48 rfl 63 70 73 4 11 14 _ _ _ rfl (by kernel_rfl) (by kernel_rfl) (by kernel_rfl) rfl rfl rfl rfl
  intro vs9 Wa Wb na bq E9' T9 nb
  have NS := nb w w.heap.size (nxt N na) (by omega)
  simp only [puts, Act.put, List.setIfInBounds_toArray, List.set_cons_succ, List.set_cons_zero]
  clear HP HQ HD E7 E8 E9 E10 E11 E12 E13 E14 TR T9 bq nb na N
  go_wp2
  obtain ⟨x, y, z, rg, _, hx, hy, hz⟩ := E9'
  have lz : (c48 x y z).length = 48 := c48_len x y z
  subst g7 g8 g9 g10 g11 g12 g13 g14
  obtain ⟨fs, hfs⟩ := u144
  exact bodyPost_ret (v := ag48 x y z) (results_cell_mid Tryd.results98 _ _ (w.heap.size + 1 + 1 + 1) (c48 x y z) _ rfl rg hfs rfl (by rw [lz]; exact i144)) rfl ⟨x, y, z, rfl, hx, hy, hz, NS⟩
end Go.Proofs.YtblkjpmkikhpbaaDoor
