import Derived.Test.YthapcapiiknjdaaDoorGB18
import Derived.Test.YthapcapiiknjdaaDoorGB13
import Derived.Test.YthapcapiiknjdaaDoorGB12

/-
  The model's l5Sum.
-/
namespace Go.Proofs.YthapcapiiknjdaaDoor
set_option maxRecDepth 100000
open Go Go.RowKit

def wA (pZ qZ : Int) : Int := pZ * qZ
def wF (pX pY qX qY d : Int) : Int := d * ((pX * qX) * (pY * qY))
def wL (pX pY pZ qX qY qZ d : Int) : Int := wA pZ qZ * wA pZ qZ - wF pX pY qX qY d
def wM (pX pY pZ qX qY qZ d : Int) : Int := wA pZ qZ * wA pZ qZ + wF pX pY qX qY d
def wX (pX pY pZ qX qY qZ d : Int) : Int := wA pZ qZ * wL pX pY pZ qX qY qZ d * ((pX + pY) * (qX + qY) - pX * qX - pY * qY)
def wY (pX pY pZ qX qY qZ d : Int) : Int := wA pZ qZ * wM pX pY pZ qX qY qZ d * (pY * qY + pX * qX)
def wZ (pX pY pZ qX qY qZ d : Int) : Int := wL pX pY pZ qX qY qZ d * wM pX pY pZ qX qY qZ d

theorem elt3_new (W : World) (t : TypeId) {a b c : Nat → Int} {A B C : Int} (ha : L16 a ∧ s16 a 16 % PP = A % PP) (hb : L16 b ∧ s16 b 16 % PP = B % PP) (hc : L16 c ∧ s16 c 16 % PP = C % PP) :
    Elt3 (W.alloc (.cells (c48 a b c).toArray t)) W.heap.size A B C := by
  have e : (W.alloc (.cells (c48 a b c).toArray t)).heap[W.heap.size]? = some (.cells (c48 a b c).toArray t) := heap_alloc_last _ _
  refine ⟨a, b, c, fun j v hv => ?_, by simp, ha, hb, hc⟩
  unfold World.cell?
  simp only
  rw [e]
  simpa using hv
theorem elt_new (W : World) (t : TypeId) {a : Nat → Int} {A : Int} (ha : L16 a ∧ s16 a 16 % PP = A % PP) : Elt (W.alloc (.cells (a16 a) t)) W.heap.size 0 A :=
  Elt.ofR (R16.ofBlk (blk16 W t a)) ha.1 ha.2

set_option maxHeartbeats 4000000 in
theorem l5Sum_any (w : World) (a b c a' b' c' e : Nat → Int) (pX pY pZ qX qY qZ d : Int) (ha : L16 a ∧ s16 a 16 % PP = pX % PP) (hb : L16 b ∧ s16 b 16 % PP = pY % PP) (hc : L16 c ∧ s16 c 16 % PP = pZ % PP)
    (ha' : L16 a' ∧ s16 a' 16 % PP = qX % PP) (hb' : L16 b' ∧ s16 b' 16 % PP = qY % PP) (hc' : L16 c' ∧ s16 c' 16 % PP = qZ % PP) (he : L16 e ∧ s16 e 16 % PP = d % PP) :
    Calls Tryd.prog 112 #[ag48 a b c, ag48 a' b' c', ag16 e] w fun r w' => ∃ x y z, r = .returned (ag48 x y z) ∧ (L16 x ∧ s16 x 16 % PP = wX pX pY pZ qX qY qZ d % PP) ∧ (L16 y ∧ s16 y 16 % PP = wY pX pY pZ qX qY qZ d % PP) ∧ (L16 z ∧ s16 z 16 % PP = wZ pX pY pZ qX qY qZ d % PP) ∧ Below w.heap.size w w' := by
  show Calls Tryd.prog 112 #[.agg (c48 a b c).toArray, .agg (c48 a' b' c').toArray, .agg (a16 e)] w _
  have H1 := elt3_new w 83 ha hb hc
  have m1 : Below w.heap.size w (w.alloc (.cells (c48 a b c).toArray 83)) := (Below.refl _ _).alloc (Nat.le_refl _) _
  have s1 : (w.alloc (.cells (c48 a b c).toArray 83)).heap.size = w.heap.size + 1 := by simp
  have H2 := fun W => elt3_new W 83 ha' hb' hc'
  have H3 := fun W => elt_new W 52 he
  obtain ⟨V1, hV1⟩ : ∃ V, V = (c48 a b c).toArray := ⟨_, rfl⟩
  obtain ⟨V2, hV2⟩ : ∃ V, V = (c48 a' b' c').toArray := ⟨_, rfl⟩
  obtain ⟨V3, hV3⟩ : ∃ V, V = a16 e := ⟨_, rfl⟩
  rw [← hV1] at H1 m1 s1 ⊢
  simp only [← hV2] at H2 ⊢
  simp only [← hV3] at H3 ⊢
  clear hV1 hV2 hV3 ha hb hc ha' hb' hc' he
  go_enter Tryd.func112, Tryd.ntmps112
  go_upto_region 1 with fail
  generalize w.alloc (.cells V1 83) = wa at *
  have H2' := H2 wa
  have m2 : Below wa.heap.size wa (wa.alloc (.cells V2 83)) := (Below.refl _ _).alloc (Nat.le_refl _) _
  have s2 : (wa.alloc (.cells V2 83)).heap.size = wa.heap.size + 1 := by simp
  rw [s1] at H2' s2
  generalize wa.alloc (.cells V2 83) = wb at *
  have H3' := H3 wb
  have m3 : Below wb.heap.size wb (wb.alloc (.cells V3 52)) := (Below.refl _ _).alloc (Nat.le_refl _) _
  have s3 : (wb.alloc (.cells V3 52)).heap.size = wb.heap.size + 1 := by simp
  rw [s2] at H3' s3
  generalize wb.alloc (.cells V3 52) = wc at *
  have TR : (wc.alloc zObj48).there wc.heap.size 0 48 := there_new wc _ _
  have m4 : Below wc.heap.size wc (wc.alloc zObj48) := (Below.refl _ _).alloc (Nat.le_refl _) _
  rw [s3] at TR
  have HP := ((H1.up m2).up m3).up m4
  have HQ := (H2'.up m3).up m4
  have HD := H3'.up m4
  have N := nxt (nxt (nxt m1 m2) m3) m4
  clear H1 H2 H3 H2' H3' m1 m2 m3 s1 s2 s3 m4
  obtain ⟨wr, hwr⟩ : ∃ W, W = wc.alloc zObj48 := ⟨_, rfl⟩
  rw [← hwr] at TR HP HQ HD N
  change Code.wp _ _ _ _ (wc.alloc zObj48)
  rw [← hwr]
  clear hwr
  refine region_new16 6 5 4 7 19 _ (fun i => [Fact.eq (.pointer (some ⟨w.heap.size, 32, none⟩)), EL (pZ), Fact.eq (.pointer (some ⟨w.heap.size + 1, 32, none⟩)), EL (qZ), EL ((pZ) * (qZ)), NB wr 16].getD i Fact.no) ((pZ) * (qZ)) (by kernel_rfl) rfl rfl rfl (by kernel_rfl) (by kernel_rfl) rfl rfl ?_ ?_
  · intro i hi
    obtain rfl | rfl | rfl | rfl | rfl | rfl : i = 0 ∨ i = 1 ∨ i = 2 ∨ i = 3 ∨ i = 4 ∨ i = 5 := by omega
    · exact step_fld rfl 83 3 2 rfl (by kernel_rfl) _ _ rfl (fz48 _) rfl
    · exact step_elf rfl 52 15 0 rfl Go.Proofs.YthapcapiiknjdaaDoor.u50 i50 (by kernel_rfl) _ _ rfl _ HP.z rfl
    · exact step_fld rfl 83 4 2 rfl (by kernel_rfl) _ _ rfl (fz48 _) rfl
    · exact step_elf rfl 52 17 2 rfl Go.Proofs.YthapcapiiknjdaaDoor.u50 i50 (by kernel_rfl) _ _ rfl _ HQ.z rfl
    · exact step_mul rfl 16 18 1 3 _ _ rfl (by kernel_rfl) (by kernel_rfl) rfl rfl rfl
    · exact step_new16 rfl rfl rfl
  intro vs1 q7 W1 v7 h1 n1 E7 T1
  clear T1
  replace HP := HP.up n1
  replace HQ := HQ.up n1
  replace HD := HD.up n1
  replace N := nxt N n1
  replace TR := there_up (by omega) TR n1
  clear n1
  obtain ⟨x7, g7⟩ : ∃ e, e = (pZ) * (qZ) := ⟨_, rfl⟩
  rw [← g7] at E7
  simp only [puts, v7, Act.put, List.setIfInBounds_toArray, List.set_cons_succ, List.set_cons_zero]
  clear v7
  go_upto_region 2 with fail
  refine region_new16 4 3 2 8 22 _ (fun i => [EL (x7), EL (x7), EL ((x7) * (x7)), NB W1 16].getD i Fact.no) ((x7) * (x7)) (by kernel_rfl) rfl rfl rfl (by kernel_rfl) (by kernel_rfl) rfl rfl ?_ ?_
  · intro i hi
    obtain rfl | rfl | rfl | rfl : i = 0 ∨ i = 1 ∨ i = 2 ∨ i = 3 := by omega
    · exact step_el rfl 52 7 rfl Go.Proofs.YthapcapiiknjdaaDoor.u50 i50 (by kernel_rfl) _ _ rfl _ E7 rfl
    · exact step_el rfl 52 7 rfl Go.Proofs.YthapcapiiknjdaaDoor.u50 i50 (by kernel_rfl) _ _ rfl _ E7 rfl
    · exact step_mul rfl 20 21 0 1 _ _ rfl (by kernel_rfl) (by kernel_rfl) rfl rfl rfl
    · exact step_new16 rfl rfl rfl
  intro vs2 q8 W2 v8 h2 n2 E8 T2
  clear T2
  replace HP := HP.up n2
  replace HQ := HQ.up n2
  replace HD := HD.up n2
  replace E7 := E7.up n2
  replace N := nxt N n2
  replace TR := there_up (by omega) TR n2
  clear n2
  obtain ⟨x8, g8⟩ : ∃ e, e = (x7) * (x7) := ⟨_, rfl⟩
  rw [← g8] at E8
  simp only [puts, v8, Act.put, List.setIfInBounds_toArray, List.set_cons_succ, List.set_cons_zero]
  clear v8
  go_upto_region 3 with fail
  refine region_new16 6 5 4 9 27 _ (fun i => [Fact.eq (.pointer (some ⟨w.heap.size, 0, none⟩)), EL (pX), Fact.eq (.pointer (some ⟨w.heap.size + 1, 0, none⟩)), EL (qX), EL ((pX) * (qX)), NB W2 16].getD i Fact.no) ((pX) * (qX)) (by kernel_rfl) rfl rfl rfl (by kernel_rfl) (by kernel_rfl) rfl rfl ?_ ?_
  · intro i hi
    obtain rfl | rfl | rfl | rfl | rfl | rfl : i = 0 ∨ i = 1 ∨ i = 2 ∨ i = 3 ∨ i = 4 ∨ i = 5 := by omega
    · exact step_fld rfl 83 3 0 rfl (by kernel_rfl) _ _ rfl (fx48 _) rfl
    · exact step_elf rfl 52 23 0 rfl Go.Proofs.YthapcapiiknjdaaDoor.u50 i50 (by kernel_rfl) _ _ rfl _ HP.x rfl
    · exact step_fld rfl 83 4 0 rfl (by kernel_rfl) _ _ rfl (fx48 _) rfl
    · exact step_elf rfl 52 25 2 rfl Go.Proofs.YthapcapiiknjdaaDoor.u50 i50 (by kernel_rfl) _ _ rfl _ HQ.x rfl
    · exact step_mul rfl 24 26 1 3 _ _ rfl (by kernel_rfl) (by kernel_rfl) rfl rfl rfl
    · exact step_new16 rfl rfl rfl
  intro vs3 q9 W3 v9 h3 n3 E9 T3
  clear T3
  replace HP := HP.up n3
  replace HQ := HQ.up n3
  replace HD := HD.up n3
  replace E7 := E7.up n3
  replace E8 := E8.up n3
  replace N := nxt N n3
  replace TR := there_up (by omega) TR n3
  clear n3
  obtain ⟨x9, g9⟩ : ∃ e, e = (pX) * (qX) := ⟨_, rfl⟩
  rw [← g9] at E9
  simp only [puts, v9, Act.put, List.setIfInBounds_toArray, List.set_cons_succ, List.set_cons_zero]
  clear v9
  go_upto_region 4 with fail
  refine region_new16 6 5 4 10 32 _ (fun i => [Fact.eq (.pointer (some ⟨w.heap.size, 16, none⟩)), EL (pY), Fact.eq (.pointer (some ⟨w.heap.size + 1, 16, none⟩)), EL (qY), EL ((pY) * (qY)), NB W3 16].getD i Fact.no) ((pY) * (qY)) (by kernel_rfl) rfl rfl rfl (by kernel_rfl) (by kernel_rfl) rfl rfl ?_ ?_
  · intro i hi
    obtain rfl | rfl | rfl | rfl | rfl | rfl : i = 0 ∨ i = 1 ∨ i = 2 ∨ i = 3 ∨ i = 4 ∨ i = 5 := by omega
    · exact step_fld rfl 83 3 1 rfl (by kernel_rfl) _ _ rfl (fy48 _) rfl
    · exact step_elf rfl 52 28 0 rfl Go.Proofs.YthapcapiiknjdaaDoor.u50 i50 (by kernel_rfl) _ _ rfl _ HP.y rfl
    · exact step_fld rfl 83 4 1 rfl (by kernel_rfl) _ _ rfl (fy48 _) rfl
    · exact step_elf rfl 52 30 2 rfl Go.Proofs.YthapcapiiknjdaaDoor.u50 i50 (by kernel_rfl) _ _ rfl _ HQ.y rfl
    · exact step_mul rfl 29 31 1 3 _ _ rfl (by kernel_rfl) (by kernel_rfl) rfl rfl rfl
    · exact step_new16 rfl rfl rfl
  intro vs4 q10 W4 v10 h4 n4 E10 T4
  clear T4
  replace HP := HP.up n4
  replace HQ := HQ.up n4
  replace HD := HD.up n4
  replace E7 := E7.up n4
  replace E8 := E8.up n4
  replace E9 := E9.up n4
  replace N := nxt N n4
  replace TR := there_up (by omega) TR n4
  clear n4
  obtain ⟨x10, g10⟩ : ∃ e, e = (pY) * (qY) := ⟨_, rfl⟩
  rw [← g10] at E10
  simp only [puts, v10, Act.put, List.setIfInBounds_toArray, List.set_cons_succ, List.set_cons_zero]
  clear v10
  go_upto_region 5 with fail
  refine region_new16 6 5 4 11 37 _ (fun i => [EL (d), EL (x9), EL (x10), EL ((x9) * (x10)), EL ((d) * ((x9) * (x10))), NB W4 16].getD i Fact.no) ((d) * ((x9) * (x10))) (by kernel_rfl) rfl rfl rfl (by kernel_rfl) (by kernel_rfl) rfl rfl ?_ ?_
  · intro i hi
    obtain rfl | rfl | rfl | rfl | rfl | rfl : i = 0 ∨ i = 1 ∨ i = 2 ∨ i = 3 ∨ i = 4 ∨ i = 5 := by omega
    · exact step_el rfl 52 5 rfl Go.Proofs.YthapcapiiknjdaaDoor.u50 i50 (by kernel_rfl) _ _ rfl _ HD rfl
    · exact step_el rfl 52 9 rfl Go.Proofs.YthapcapiiknjdaaDoor.u50 i50 (by kernel_rfl) _ _ rfl _ E9 rfl
    · exact step_el rfl 52 10 rfl Go.Proofs.YthapcapiiknjdaaDoor.u50 i50 (by kernel_rfl) _ _ rfl _ E10 rfl
    · exact step_mul rfl 34 35 1 2 _ _ rfl (by kernel_rfl) (by kernel_rfl) rfl rfl rfl
    · exact step_mul rfl 33 36 0 3 _ _ rfl (by kernel_rfl) (by kernel_rfl) rfl rfl rfl
    · exact step_new16 rfl rfl rfl
  intro vs5 q11 W5 v11 h5 n5 E11 T5
  clear T5
  replace HP := HP.up n5
  replace HQ := HQ.up n5
  replace HD := HD.up n5
  replace E7 := E7.up n5
  replace E8 := E8.up n5
  replace E9 := E9.up n5
  replace E10 := E10.up n5
  replace N := nxt N n5
  replace TR := there_up (by omega) TR n5
  clear n5
  obtain ⟨x11, g11⟩ : ∃ e, e = (d) * ((x9) * (x10)) := ⟨_, rfl⟩
  rw [← g11] at E11
  simp only [puts, v11, Act.put, List.setIfInBounds_toArray, List.set_cons_succ, List.set_cons_zero]
  clear v11
  go_upto_region 6 with fail
  refine region_new16 4 3 2 12 40 _ (fun i => [EL (x8), EL (x11), EL ((x8) - (x11)), NB W5 16].getD i Fact.no) ((x8) - (x11)) (by kernel_rfl) rfl rfl rfl (by kernel_rfl) (by kernel_rfl) rfl rfl ?_ ?_
  · intro i hi
    obtain rfl | rfl | rfl | rfl : i = 0 ∨ i = 1 ∨ i = 2 ∨ i = 3 := by omega
    · exact step_el rfl 52 8 rfl Go.Proofs.YthapcapiiknjdaaDoor.u50 i50 (by kernel_rfl) _ _ rfl _ E8 rfl
    · exact step_el rfl 52 11 rfl Go.Proofs.YthapcapiiknjdaaDoor.u50 i50 (by kernel_rfl) _ _ rfl _ E11 rfl
    · exact step_sub rfl 38 39 0 1 _ _ rfl (by kernel_rfl) (by kernel_rfl) rfl rfl rfl
    · exact step_new16 rfl rfl rfl
  intro vs6 q12 W6 v12 h6 n6 E12 T6
  clear T6
  replace HP := HP.up n6
  replace HQ := HQ.up n6
  replace HD := HD.up n6
  replace E7 := E7.up n6
  replace E8 := E8.up n6
  replace E9 := E9.up n6
  replace E10 := E10.up n6
  replace E11 := E11.up n6
  replace N := nxt N n6
  replace TR := there_up (by omega) TR n6
  clear n6
  obtain ⟨x12, g12⟩ : ∃ e, e = (x8) - (x11) := ⟨_, rfl⟩
  rw [← g12] at E12
  simp only [puts, v12, Act.put, List.setIfInBounds_toArray, List.set_cons_succ, List.set_cons_zero]
  clear v12
  go_upto_region 7 with fail
  refine region_new16 4 3 2 13 43 _ (fun i => [EL (x8), EL (x11), EL ((x8) + (x11)), NB W6 16].getD i Fact.no) ((x8) + (x11)) (by kernel_rfl) rfl rfl rfl (by kernel_rfl) (by kernel_rfl) rfl rfl ?_ ?_
  · intro i hi
    obtain rfl | rfl | rfl | rfl : i = 0 ∨ i = 1 ∨ i = 2 ∨ i = 3 := by omega
    · exact step_el rfl 52 8 rfl Go.Proofs.YthapcapiiknjdaaDoor.u50 i50 (by kernel_rfl) _ _ rfl _ E8 rfl
    · exact step_el rfl 52 11 rfl Go.Proofs.YthapcapiiknjdaaDoor.u50 i50 (by kernel_rfl) _ _ rfl _ E11 rfl
    · exact step_add rfl 41 42 0 1 _ _ rfl (by kernel_rfl) (by kernel_rfl) rfl rfl rfl
    · exact step_new16 rfl rfl rfl
  intro vs7 q13 W7 v13 h7 n7 E13 T7
  clear T7
  replace HP := HP.up n7
  replace HQ := HQ.up n7
  replace HD := HD.up n7
  replace E7 := E7.up n7
  replace E8 := E8.up n7
  replace E9 := E9.up n7
  replace E10 := E10.up n7
  replace E11 := E11.up n7
  replace E12 := E12.up n7
  replace N := nxt N n7
  replace TR := there_up (by omega) TR n7
  clear n7
  obtain ⟨x13, g13⟩ : ∃ e, e = (x8) + (x11) := ⟨_, rfl⟩
  rw [← g13] at E13
  simp only [puts, v13, Act.put, List.setIfInBounds_toArray, List.set_cons_succ, List.set_cons_zero]
  clear v13
  go_upto_region 8 with fail
  refine region_new16 16 15 14 14 58 _ (fun i => [Fact.eq (.pointer (some ⟨w.heap.size, 0, none⟩)), EL (pX), Fact.eq (.pointer (some ⟨w.heap.size, 16, none⟩)), EL (pY), EL ((pX) + (pY)), Fact.eq (.pointer (some ⟨w.heap.size + 1, 0, none⟩)), EL (qX), Fact.eq (.pointer (some ⟨w.heap.size + 1, 16, none⟩)), EL (qY), EL ((qX) + (qY)), EL (((pX) + (pY)) * ((qX) + (qY))), EL (x9), EL ((((pX) + (pY)) * ((qX) + (qY))) - (x9)), EL (x10), EL (((((pX) + (pY)) * ((qX) + (qY))) - (x9)) - (x10)), NB W7 16].getD i Fact.no) (((((pX) + (pY)) * ((qX) + (qY))) - (x9)) - (x10)) (by kernel_rfl) rfl rfl rfl (by kernel_rfl) (by kernel_rfl) rfl rfl ?_ ?_
  · intro i hi
    obtain rfl | rfl | rfl | rfl | rfl | rfl | rfl | rfl | rfl | rfl | rfl | rfl | rfl | rfl | rfl | rfl : i = 0 ∨ i = 1 ∨ i = 2 ∨ i = 3 ∨ i = 4 ∨ i = 5 ∨ i = 6 ∨ i = 7 ∨ i = 8 ∨ i = 9 ∨ i = 10 ∨ i = 11 ∨ i = 12 ∨ i = 13 ∨ i = 14 ∨ i = 15 := by omega
    · exact step_fld rfl 83 3 0 rfl (by kernel_rfl) _ _ rfl (fx48 _) rfl
    · exact step_elf rfl 52 44 0 rfl Go.Proofs.YthapcapiiknjdaaDoor.u50 i50 (by kernel_rfl) _ _ rfl _ HP.x rfl
    · exact step_fld rfl 83 3 1 rfl (by kernel_rfl) _ _ rfl (fy48 _) rfl
    · exact step_elf rfl 52 46 2 rfl Go.Proofs.YthapcapiiknjdaaDoor.u50 i50 (by kernel_rfl) _ _ rfl _ HP.y rfl
    · exact step_add rfl 45 47 1 3 _ _ rfl (by kernel_rfl) (by kernel_rfl) rfl rfl rfl
    · exact step_fld rfl 83 4 0 rfl (by kernel_rfl) _ _ rfl (fx48 _) rfl
    · exact step_elf rfl 52 49 5 rfl Go.Proofs.YthapcapiiknjdaaDoor.u50 i50 (by kernel_rfl) _ _ rfl _ HQ.x rfl
    · exact step_fld rfl 83 4 1 rfl (by kernel_rfl) _ _ rfl (fy48 _) rfl
    · exact step_elf rfl 52 51 7 rfl Go.Proofs.YthapcapiiknjdaaDoor.u50 i50 (by kernel_rfl) _ _ rfl _ HQ.y rfl
    · exact step_add rfl 50 52 6 8 _ _ rfl (by kernel_rfl) (by kernel_rfl) rfl rfl rfl
    · exact step_mul rfl 48 53 4 9 _ _ rfl (by kernel_rfl) (by kernel_rfl) rfl rfl rfl
    · exact step_el rfl 52 9 rfl Go.Proofs.YthapcapiiknjdaaDoor.u50 i50 (by kernel_rfl) _ _ rfl _ E9 rfl
    · exact step_sub rfl 54 55 10 11 _ _ rfl (by kernel_rfl) (by kernel_rfl) rfl rfl rfl
    · exact step_el rfl 52 10 rfl Go.Proofs.YthapcapiiknjdaaDoor.u50 i50 (by kernel_rfl) _ _ rfl _ E10 rfl
    · exact step_sub rfl 56 57 12 13 _ _ rfl (by kernel_rfl) (by kernel_rfl) rfl rfl rfl
    · exact step_new16 rfl rfl rfl
  intro vs8 q14 W8 v14 h8 n8 E14 T8
  clear T8
  replace HP := HP.up n8
  replace HQ := HQ.up n8
  replace HD := HD.up n8
  replace E7 := E7.up n8
  replace E8 := E8.up n8
  replace E9 := E9.up n8
  replace E10 := E10.up n8
  replace E11 := E11.up n8
  replace E12 := E12.up n8
  replace E13 := E13.up n8
  replace N := nxt N n8
  replace TR := there_up (by omega) TR n8
  clear n8
  obtain ⟨x14, g14⟩ : ∃ e, e = ((((pX) + (pY)) * ((qX) + (qY))) - (x9)) - (x10) := ⟨_, rfl⟩
  rw [← g14] at E14
  simp only [puts, v14, Act.put, List.setIfInBounds_toArray, List.set_cons_succ, List.set_cons_zero]
  clear v14
  go_upto_region 9 with fail
  refine region_put48 16 15 6 74 _ (fun i => [EL (x7), EL (x12), EL ((x7) * (x12)), EL (x14), EL (((x7) * (x12)) * (x14)), EL (x7), EL (x13), EL ((x7) * (x13)), EL (x10), EL (x9), EL ((x10) + (x9)), EL (((x7) * (x13)) * ((x10) + (x9))), EL (x12), EL (x13), EL ((x12) * (x13)), E3 (((x7) * (x12)) * (x14)) (((x7) * (x13)) * ((x10) + (x9))) ((x12) * (x13))].getD i Fact.no) (((x7) * (x12)) * (x14)) (((x7) * (x13)) * ((x10) + (x9))) ((x12) * (x13)) _ (by kernel_rfl) rfl rfl rfl (by kernel_rfl) rfl TR (by kernel_rfl) rfl ?_ ?_
  · intro i hi
    obtain rfl | rfl | rfl | rfl | rfl | rfl | rfl | rfl | rfl | rfl | rfl | rfl | rfl | rfl | rfl | rfl : i = 0 ∨ i = 1 ∨ i = 2 ∨ i = 3 ∨ i = 4 ∨ i = 5 ∨ i = 6 ∨ i = 7 ∨ i = 8 ∨ i = 9 ∨ i = 10 ∨ i = 11 ∨ i = 12 ∨ i = 13 ∨ i = 14 ∨ i = 15 := by omega
    · exact step_el rfl 52 7 rfl Go.Proofs.YthapcapiiknjdaaDoor.u50 i50 (by kernel_rfl) _ _ rfl _ E7 rfl
    · exact step_el rfl 52 12 rfl Go.Proofs.YthapcapiiknjdaaDoor.u50 i50 (by kernel_rfl) _ _ rfl _ E12 rfl
    · exact step_mul rfl 59 60 0 1 _ _ rfl (by kernel_rfl) (by kernel_rfl) rfl rfl rfl
    · exact step_el rfl 52 14 rfl Go.Proofs.YthapcapiiknjdaaDoor.u50 i50 (by kernel_rfl) _ _ rfl _ E14 rfl
    · exact step_mul rfl 61 62 2 3 _ _ rfl (by kernel_rfl) (by kernel_rfl) rfl rfl rfl
    · exact step_el rfl 52 7 rfl Go.Proofs.YthapcapiiknjdaaDoor.u50 i50 (by kernel_rfl) _ _ rfl _ E7 rfl
    · exact step_el rfl 52 13 rfl Go.Proofs.YthapcapiiknjdaaDoor.u50 i50 (by kernel_rfl) _ _ rfl _ E13 rfl
    · exact step_mul rfl 64 65 5 6 _ _ rfl (by kernel_rfl) (by kernel_rfl) rfl rfl rfl
    · exact step_el rfl 52 10 rfl Go.Proofs.YthapcapiiknjdaaDoor.u50 i50 (by kernel_rfl) _ _ rfl _ E10 rfl
    · exact step_el rfl 52 9 rfl Go.Proofs.YthapcapiiknjdaaDoor.u50 i50 (by kernel_rfl) _ _ rfl _ E9 rfl
    · exact step_add rfl 67 68 8 9 _ _ rfl (by kernel_rfl) (by kernel_rfl) rfl rfl rfl
    · exact step_mul rfl 66 69 7 10 _ _ rfl (by kernel_rfl) (by kernel_rfl) rfl rfl rfl
    · exact step_el rfl 52 12 rfl Go.Proofs.YthapcapiiknjdaaDoor.u50 i50 (by kernel_rfl) _ _ rfl _ E12 rfl
    · exact step_el rfl 52 13 rfl Go.Proofs.YthapcapiiknjdaaDoor.u50 i50 (by kernel_rfl) _ _ rfl _ E13 rfl
    · exact step_mul rfl 71 72 12 13 _ _ rfl (by kernel_rfl) (by kernel_rfl) rfl rfl rfl
    · exact step_b48 rfl 63 70 73 4 11 14 _ _ _ rfl (by kernel_rfl) (by kernel_rfl) (by kernel_rfl) rfl rfl rfl rfl
  intro vs9 Wa Wb na bq E9' T9 nb
  have NS := nb w w.heap.size (nxt N na) (by omega)
  simp only [puts, Act.put, List.setIfInBounds_toArray, List.set_cons_succ, List.set_cons_zero]
  clear HP HQ HD E7 E8 E9 E10 E11 E12 E13 E14 TR T9 bq nb na N
  go_wp2
  obtain ⟨x, y, z, rg, _, hx, hy, hz⟩ := E9'
  have lz : (c48 x y z).length = 48 := c48_len x y z
  subst g7 g8 g9 g10 g11 g12 g13 g14
  obtain ⟨fs, hfs⟩ := u144
  exact bodyPost_ret (v := ag48 x y z) (results_cell_mid Tryd.results112 _ _ (w.heap.size + 1 + 1 + 1) (c48 x y z) _ rfl rg hfs rfl (by rw [lz]; exact i144)) rfl ⟨x, y, z, rfl, hx, hy, hz, NS⟩
end Go.Proofs.YthapcapiiknjdaaDoor

/-
  The model's points: facts of two lists of bytes; l5D, PointZero.
-/
namespace Go.Proofs.YthapcapiiknjdaaDoor
set_option maxRecDepth 100000
open Go Go.RowKit

/-- - 121665 / 121666. -/
def dE : Int := (0 - 121665) * iv 121666
theorem there_z (W : World) : (W.alloc zObj).there W.heap.size 0 16 := there_new W _ _

/-- A new list of bytes of which p holds. -/
def RN (w0 : World) (p : List Int → Prop) : Fact := ⟨fun v w => ∃ (xs : List Int) (a : Option Addr) (c g : Nat), v = .slice a xs.length c ∧ Own w g a .u8 xs ∧ w0.heap.size ≤ g ∧ p xs ∧ (a = none → c = 0) ∧ xs.length ≤ c, fun n h => by
  obtain ⟨xs, a, c, g, e, o, q⟩ := h
  exact ⟨xs, a, c, g, e, o.up n, q⟩⟩
/-- A new point: two lists of bytes of which p holds. -/
def PT (w0 : World) (p : List Int → List Int → Prop) : Fact := ⟨fun v w => ∃ (xs ys : List Int) (a a' : Option Addr) (c c' g g' : Nat), v = .agg #[.slice a xs.length c, .slice a' ys.length c'] ∧ Own w g a .u8 xs ∧ Own w g' a' .u8 ys ∧ w0.heap.size ≤ g ∧ w0.heap.size ≤ g' ∧ p xs ys, fun n h => by
  obtain ⟨xs, ys, a, a', c, c', g, g', e, o, o', q⟩ := h
  exact ⟨xs, ys, a, a', c, c', g, g', e, o.up n, o'.up n, q⟩⟩
theorem buP (w : World) (a a' : Option Addr) (m m' c c' : Nat) : (Instr.build 24 #[(0, .slice a m c), (1, .slice a' m' c')]).run Tryd.prog w = .ok (.agg #[.slice a m c, .slice a' m' c']) w := by kernel_rfl
theorem iP : (Tryd.prog.info? 24).map (·.size) = some 2 := by kernel_rfl
theorem uP : ∃ fs, Tryd.prog.underlying 24 = some (.struct fs) := ⟨_, Tryd.underlying24⟩
theorem en_bytes : enters Tryd.prog 49 = true := by kernel_rfl
theorem en_d : enters Tryd.prog 59 = true := by kernel_rfl
theorem en_of : enters Tryd.prog 54 = true := by kernel_rfl
section
variable {ops : Array Oper} {Q : Exit → Act → World → Prop} {md : Region.Mode} {F : Nat → Fact} {a0 : Act} {w0 : World} {i : Nat} {o : Oper} {ts : Array TypeId}
theorem step_bytes (hi : ops[i]? = some o) (p j : Nat) (A : Int) (hop : o.op = .call { callee := .value (.func 49), args := #[.tmp p], argTypes := ts })
    (hj : waits md ops i j p = true) (hFj : F j = EL A) (hFi : F i = RN w0 (fun xs => xs = fill (byt (A % PP)) 32)) : StepOk Tryd.prog md ops Q F a0 w0 i := by
  refine step_call hi _ _ ts hop en_bytes fun a w _ hw hF => ?_
  have ea := hF j p hj
  rw [hFj] at ea
  obtain ⟨t, e1, L1, V1⟩ := ea
  show Calls Tryd.prog 49 #[a.tmps.getD p undef] w _
  rw [e1]
  refine (l2Bytes_any w t L1).mono ?_
  rintro r w' ⟨⟨b, c, g, rfl, ow, k1, k2, hg⟩, hn⟩
  rw [hFi]
  exact ⟨_, rfl, hn, _, b, c, g, rfl, ow, Nat.le_trans hw.size hg, by rw [V1], k1, k2⟩
theorem step_bp (hi : ops[i]? = some o) (p q j k : Nat) (f g : List Int → Prop) (hop : o.op = .build 24 #[(0, .tmp p), (1, .tmp q)])
    (hj : waits md ops i j p = true) (hk : waits md ops i k q = true) (hFj : F j = RN w0 f) (hFk : F k = RN w0 g) (hFi : F i = PT w0 (fun xs ys => f xs ∧ g ys)) : StepOk Tryd.prog md ops Q F a0 w0 i := by
  refine step_pure hi fun a w _ _ hf => ?_
  have h1 := hf j p hj
  have h2 := hf k q hk
  rw [hFj] at h1
  rw [hFk] at h2
  obtain ⟨xs, b, c, h, e1, o1, l1, p1, _, _⟩ := h1
  obtain ⟨ys, b', c', h', e2, o2, l2, p2, _, _⟩ := h2
  refine ⟨.agg #[.slice b xs.length c, .slice b' ys.length c'], ?_, by rw [hFi]; exact ⟨xs, ys, b, b', c, c', h, h', rfl, o1, o2, l1, l2, p1, p2⟩⟩
  have g1 : a.eval (.tmp p) = .slice b xs.length c := e1
  have g2 : a.eval (.tmp q) = .slice b' ys.length c' := e2
  have gg : (#[(0, Operand.tmp p), (1, Operand.tmp q)].map fun (n, x) => (n, a.eval x)) = #[(0, Value.slice b xs.length c), (1, .slice b' ys.length c')] := by simp [g1, g2]
  simp only [execOp, hop, gg]
  rw [Sem.run_bind, buP]
  rfl
end
section
variable {ops : Array Oper} {Q : Exit → Act → World → Prop} {a0 : Act} {w : World} {id : Nat} {draw : Bool}
/-- A region that lays a point into a block that was there. -/
theorem region_putP (k jV pD pV : Nat) (o : Oper) (F : Nat → Fact) (p : List Int → List Int → Prop) (q : Nat) (hT : textOk .any ops a0.tmps.size k = true) (hk : ops[k]? = some o) (hd : o.dst = none) (hop : o.op = .store 24 (.tmp pD) (.tmp pV))
    (hp : apart ops pD = true) (h0 : a0.tmps.getD pD undef = .pointer (some ⟨q, 0, none⟩)) (ht : w.there q 0 2)
    (wV : writes ops jV pV = true) (FV : F jV = PT w p) (steps : ∀ i, i < k → StepOk Tryd.prog .any ops Q F a0 w i)
    (fin : ∀ (vs : Nat → Value) (W W' : World) (xs ys : List Int) (a a' : Option Addr) (c c' g g' : Nat), Below w.heap.size w W → ButQ q w W' → W'.rangeAt q 0 [.slice a xs.length c, .slice a' ys.length c'] → Own W' g a .u8 xs → Own W' g' a' .u8 ys → w.heap.size ≤ g → w.heap.size ≤ g' → p xs ys → (∀ (w1 : World) (B : Nat), Below B w1 W → B ≤ q → Below B w1 W') → Q .normal (puts vs a0 ops.toList) W') :
    (Code.region id ops draw).wp Tryd.prog Q a0 w := by
  refine region_store k o F (by kernel_rfl) hT hk hd steps fun a W hb hw hF => ?_
  have h2 := hF jV pV wV
  rw [FV] at h2
  obtain ⟨xs, ys, b, b', c, c', g, g', ev, o1, o2, l1, l2, hpp⟩ := h2
  have th := there_up (by omega) ht hw
  refine wp_store_mid 24 (.tmp pD) (.tmp pV) hop q 0 #[.slice b xs.length c, .slice b' ys.length c'] ((based_at hb pD hp).trans h0) ev th iP (by simp [Value.oneCell']) ?_
  obtain ⟨vs, hvs⟩ : ∃ vs : Nat → Value, ∀ d, a.tmps.getD d undef = vs d := ⟨_, fun _ => rfl⟩
  rw [hd]
  show Q .normal a _
  rw [puts_of hT rfl hb vs hvs]
  have lq := there_lt (by omega) ht
  refine fin vs W _ xs ys b b' c c' g g' hw (but_set hw _) (World.rangeAt_setCells_same W q 0 _ th) ?_ ?_ l1 l2 hpp (fun w1 B n hB => below_setCells hB _ _ _ n)
  · exact fun h0 => o1.of_block (setCells_other (by omega) _ 0 W) h0
  · exact fun h0 => o2.of_block (setCells_other (by omega) _ 0 W) h0
end

set_option maxHeartbeats 1000000 in
theorem l5D_any (w : World) : Calls Tryd.prog 59 #[] w fun r w' => ∃ t, r = .returned (ag16 t) ∧ L16 t ∧ s16 t 16 % PP = dE % PP ∧ Below w.heap.size w w' := by
  go_enter Tryd.func59, Tryd.ntmps59
  go_upto_region 1 with fail
  change Code.wp _ _ _ _ (w.alloc zObj)
  have TR := there_z w
  have N : Below w.heap.size w (w.alloc zObj) := (Below.refl _ _).alloc (Nat.le_refl _) _
  generalize w.alloc zObj = wr at *
  refine region_put16 6 5 0 6 _ (fun i => [EL 0, EL 121665, EL ((0) - (121665)), EL 121666, EL (iv (121666)), EL (((0) - (121665)) * (iv (121666)))].getD i Fact.no) (((0) - (121665)) * (iv (121666))) _ (by kernel_rfl) rfl rfl rfl (by kernel_rfl) rfl TR (by kernel_rfl) rfl ?_ ?_
  · intro i hi
    obtain rfl | rfl | rfl | rfl | rfl | rfl : i = 0 ∨ i = 1 ∨ i = 2 ∨ i = 3 ∨ i = 4 ∨ i = 5 := by omega
    · exact step_small rfl 0 (by omega) rfl rfl
    · exact step_small rfl 121665 (by omega) rfl rfl
    · exact step_sub rfl 1 2 0 1 _ _ rfl (by kernel_rfl) (by kernel_rfl) rfl rfl rfl
    · exact step_small rfl 121666 (by omega) rfl rfl
    · exact step_inv rfl 4 3 _ rfl (by kernel_rfl) rfl rfl
    · exact step_mul rfl 3 5 2 4 _ _ rfl (by kernel_rfl) (by kernel_rfl) rfl rfl rfl
  intro vs W W' n bq E T nb
  have NS := nb w w.heap.size (nxt N n) (Nat.le_refl _)
  simp only [puts, Act.put, List.setIfInBounds_toArray, List.set_cons_succ, List.set_cons_zero]
  obtain ⟨t, rg, _, L, V⟩ := E
  clear N n bq nb T TR
  go_wp2
  exact bodyPost_ret (v := .agg (a16 t)) (results_cell_mid Tryd.results59 _ _ w.heap.size (a16 t).toList (.array 16 2) rfl rg Go.Proofs.YthapcapiiknjdaaDoor.u50 rfl (by rw [a16_len]; exact i50)) rfl ⟨t, rfl, L, V, NS⟩
theorem step_d {ops : Array Oper} {Q : Exit → Act → World → Prop} {md : Region.Mode} {F : Nat → Fact} {a0 : Act} {w0 : World} {i : Nat} {o : Oper} {ts : Array TypeId} (hi : ops[i]? = some o) (hop : o.op = .call { callee := .value (.func 59), args := #[], argTypes := ts })
    (hFi : F i = EL dE) : StepOk Tryd.prog md ops Q F a0 w0 i := by
  refine step_call hi _ _ ts hop en_d fun a w _ _ _ => ?_
  refine (l5D_any w).mono ?_
  rintro r w' ⟨s, rfl, L, V, hb⟩
  exact ⟨_, rfl, hb, by rw [hFi]; exact ⟨s, rfl, L, V⟩⟩
end Go.Proofs.YthapcapiiknjdaaDoor

/-
  The model's PointZero and l5Plain.
-/
namespace Go.Proofs.YthapcapiiknjdaaDoor
set_option maxRecDepth 100000
open Go Go.RowKit

abbrev pObj : Obj := .cells [Value.slice none 0 0, .slice none 0 0].toArray 24
theorem there_p (W : World) : (W.alloc pObj).there W.heap.size 0 2 := there_new W _ _
/-- What a call that makes a point answers. -/
def NewPt (B : Nat) (w' : World) (e : Ending) (xs ys : List Int) : Prop :=
  ∃ (a a' : Option Addr) (c c' g g' : Nat), e = .returned (.agg #[.slice a xs.length c, .slice a' ys.length c']) ∧ Own w' g a .u8 xs ∧ Own w' g' a' .u8 ys ∧ B ≤ g ∧ B ≤ g'

set_option maxHeartbeats 1000000 in
theorem pointZero_any (w : World) : Calls Tryd.prog 14 #[] w fun r w' => NewPt w.heap.size w' r (fill (byt (0 % PP)) 32) (fill (byt (1 % PP)) 32) ∧ Below w.heap.size w w' := by
  go_enter Tryd.func14, Tryd.ntmps14
  go_upto_region 1 with fail
  change Code.wp _ _ _ _ (w.alloc pObj)
  have TR := there_p w
  have N : Below w.heap.size w (w.alloc pObj) := (Below.refl _ _).alloc (Nat.le_refl _) _
  generalize w.alloc pObj = wr at *
  refine region_putP 5 4 0 5 _ (fun i => [EL 0, RN wr (fun xs => xs = fill (byt ((0) % PP)) 32), EL 1, RN wr (fun xs => xs = fill (byt ((1) % PP)) 32), PT wr (fun xs ys => xs = fill (byt ((0) % PP)) 32 ∧ ys = fill (byt ((1) % PP)) 32)].getD i Fact.no) (fun xs ys => xs = fill (byt ((0) % PP)) 32 ∧ ys = fill (byt ((1) % PP)) 32) _ (by kernel_rfl) rfl rfl rfl (by kernel_rfl) rfl TR (by kernel_rfl) rfl ?_ ?_
  · intro i hi
    obtain rfl | rfl | rfl | rfl | rfl : i = 0 ∨ i = 1 ∨ i = 2 ∨ i = 3 ∨ i = 4 := by omega
    · exact step_small rfl 0 (by omega) rfl rfl
    · exact step_bytes rfl 1 0 _ rfl (by kernel_rfl) rfl rfl
    · exact step_small rfl 1 (by omega) rfl rfl
    · exact step_bytes rfl 3 2 _ rfl (by kernel_rfl) rfl rfl
    · exact step_bp rfl 2 4 1 3 _ _ rfl (by kernel_rfl) (by kernel_rfl) rfl rfl rfl
  rintro vs W W' xs ys a a' c c' g g' n bq rg o1 o2 l1 l2 ⟨rfl, rfl⟩ nb
  have NS := nb w w.heap.size (nxt N n) (Nat.le_refl _)
  simp only [puts, Act.put, List.setIfInBounds_toArray, List.set_cons_succ, List.set_cons_zero]
  have z1 := N.size
  clear N n bq nb TR
  go_wp2
  obtain ⟨fs, hfs⟩ := uP
  exact bodyPost_ret (v := .agg #[_, _]) (results_cell_mid Tryd.results14 _ _ w.heap.size _ _ rfl rg hfs rfl iP) rfl ⟨⟨a, a', c, c', g, g', rfl, o1, o2, by omega, by omega⟩, NS⟩

set_option maxHeartbeats 2000000 in
theorem l5Plain_any (w : World) (x y z : Nat → Int) (pX pY pZ : Int) (hx : L16 x ∧ s16 x 16 % PP = pX % PP) (hy : L16 y ∧ s16 y 16 % PP = pY % PP) (hz : L16 z ∧ s16 z 16 % PP = pZ % PP) :
    Calls Tryd.prog 72 #[ag48 x y z] w fun r w' => NewPt w.heap.size w' r (fill (byt (pX * iv pZ % PP)) 32) (fill (byt (pY * iv pZ % PP)) 32) ∧ Below w.heap.size w w' := by
  show Calls Tryd.prog 72 #[.agg (c48 x y z).toArray] w _
  have H1 := elt3_new w 83 hx hy hz
  have m1 : Below w.heap.size w (w.alloc (.cells (c48 x y z).toArray 83)) := (Below.refl _ _).alloc (Nat.le_refl _) _
  have s1 : (w.alloc (.cells (c48 x y z).toArray 83)).heap.size = w.heap.size + 1 := by simp
  obtain ⟨V1, hV1⟩ : ∃ V, V = (c48 x y z).toArray := ⟨_, rfl⟩
  rw [← hV1] at H1 m1 s1 ⊢
  clear hV1 hx hy hz
  go_enter Tryd.func72, Tryd.ntmps72
  go_upto_region 1 with fail
  generalize w.alloc (.cells V1 83) = wa at *
  change Code.wp _ _ _ _ (wa.alloc pObj)
  have TR := there_p wa
  have m2 : Below wa.heap.size wa (wa.alloc pObj) := (Below.refl _ _).alloc (Nat.le_refl _) _
  rw [s1] at TR
  have HP := H1.up m2
  have N := nxt m1 m2
  clear H1 m1 m2 s1
  generalize wa.alloc pObj = wr at *
  refine region_new16 4 3 2 3 6 _ (fun i => [Fact.eq (.pointer (some ⟨w.heap.size, 32, none⟩)), EL (pZ), EL (iv (pZ)), NB wr 16].getD i Fact.no) (iv (pZ)) (by kernel_rfl) rfl rfl rfl (by kernel_rfl) (by kernel_rfl) rfl rfl ?_ ?_
  · intro i hi
    obtain rfl | rfl | rfl | rfl : i = 0 ∨ i = 1 ∨ i = 2 ∨ i = 3 := by omega
    · exact step_fld rfl 83 1 2 rfl (by kernel_rfl) _ _ rfl (fz48 _) rfl
    · exact step_elf rfl 52 4 0 rfl Go.Proofs.YthapcapiiknjdaaDoor.u50 i50 (by kernel_rfl) _ _ rfl _ HP.z rfl
    · exact step_inv rfl 5 1 _ rfl (by kernel_rfl) rfl rfl
    · exact step_new16 rfl rfl rfl
  intro vs1 q3 W1 v3 h3 n1 E3' T1
  replace HP := HP.up n1
  replace N := nxt N n1
  replace TR := there_up (by omega) TR n1
  clear n1 T1
  simp only [puts, v3, Act.put, List.setIfInBounds_toArray, List.set_cons_succ, List.set_cons_zero]
  clear v3
  go_upto_region 2 with fail
  refine region_putP 11 10 2 17 _ (fun i => [Fact.eq (.pointer (some ⟨w.heap.size, 0, none⟩)), EL (pX), EL (iv (pZ)), EL ((pX) * (iv (pZ))), RN W1 (fun xs => xs = fill (byt (((pX) * (iv (pZ))) % PP)) 32), Fact.eq (.pointer (some ⟨w.heap.size, 16, none⟩)), EL (pY), EL (iv (pZ)), EL ((pY) * (iv (pZ))), RN W1 (fun xs => xs = fill (byt (((pY) * (iv (pZ))) % PP)) 32), PT W1 (fun xs ys => xs = fill (byt (((pX) * (iv (pZ))) % PP)) 32 ∧ ys = fill (byt (((pY) * (iv (pZ))) % PP)) 32)].getD i Fact.no) (fun xs ys => xs = fill (byt (((pX) * (iv (pZ))) % PP)) 32 ∧ ys = fill (byt (((pY) * (iv (pZ))) % PP)) 32) _ (by kernel_rfl) rfl rfl rfl (by kernel_rfl) rfl TR (by kernel_rfl) rfl ?_ ?_
  · intro i hi
    obtain rfl | rfl | rfl | rfl | rfl | rfl | rfl | rfl | rfl | rfl | rfl : i = 0 ∨ i = 1 ∨ i = 2 ∨ i = 3 ∨ i = 4 ∨ i = 5 ∨ i = 6 ∨ i = 7 ∨ i = 8 ∨ i = 9 ∨ i = 10 := by omega
    · exact step_fld rfl 83 1 0 rfl (by kernel_rfl) _ _ rfl (fx48 _) rfl
    · exact step_elf rfl 52 7 0 rfl Go.Proofs.YthapcapiiknjdaaDoor.u50 i50 (by kernel_rfl) _ _ rfl _ HP.x rfl
    · exact step_el rfl 52 3 rfl Go.Proofs.YthapcapiiknjdaaDoor.u50 i50 (by kernel_rfl) _ _ rfl _ E3' rfl
    · exact step_mul rfl 8 9 1 2 _ _ rfl (by kernel_rfl) (by kernel_rfl) rfl rfl rfl
    · exact step_bytes rfl 10 3 _ rfl (by kernel_rfl) rfl rfl
    · exact step_fld rfl 83 1 1 rfl (by kernel_rfl) _ _ rfl (fy48 _) rfl
    · exact step_elf rfl 52 12 5 rfl Go.Proofs.YthapcapiiknjdaaDoor.u50 i50 (by kernel_rfl) _ _ rfl _ HP.y rfl
    · exact step_el rfl 52 3 rfl Go.Proofs.YthapcapiiknjdaaDoor.u50 i50 (by kernel_rfl) _ _ rfl _ E3' rfl
    · exact step_mul rfl 13 14 6 7 _ _ rfl (by kernel_rfl) (by kernel_rfl) rfl rfl rfl
    · exact step_bytes rfl 15 8 _ rfl (by kernel_rfl) rfl rfl
    · exact step_bp rfl 11 16 4 9 _ _ rfl (by kernel_rfl) (by kernel_rfl) rfl rfl rfl
  rintro vs W W' xs ys a a' c c' g g' n bq rg o1 o2 l1 l2 ⟨rfl, rfl⟩ nb
  have NS := nb w w.heap.size (nxt N n) (by omega)
  simp only [puts, Act.put, List.setIfInBounds_toArray, List.set_cons_succ, List.set_cons_zero]
  have z1 := N.size
  clear N n bq nb TR HP E3'
  go_wp2
  obtain ⟨fs, hfs⟩ := uP
  exact bodyPost_ret (v := .agg #[_, _]) (results_cell_mid Tryd.results72 _ _ (w.heap.size + 1) _ _ rfl rg hfs rfl iP) rfl ⟨⟨a, a', c, c', g, g', rfl, o1, o2, by omega, by omega⟩, NS⟩
end Go.Proofs.YthapcapiiknjdaaDoor
