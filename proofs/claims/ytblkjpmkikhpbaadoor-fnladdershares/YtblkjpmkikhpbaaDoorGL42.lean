import Derived.Test.YtblkjpmkikhpbaaDoorGL40
import Derived.Test.YtblkjpmkikhpbaaDoorGL41
import Derived.Test.YtblkjpmkikhpbaaDoorGL33

/-
  The model's l4Double and l4Sum.
-/
namespace Go.Proofs.YtblkjpmkikhpbaaDoor
set_option maxRecDepth 100000
open Go Go.RowKit

theorem dV_alt (u v : Int) : dW u v * ((u + v) * (u + v) + 121665 * dW u v) = dV u v := by
  unfold dV
  rw [Int.mul_comm 121665]

set_option maxHeartbeats 4000000 in
theorem l4Double_any (w : World) (a b : Nat → Int) (A B : Int) (ha : Is16 a A) (hb : Is16 b B) :
    Calls Tryd.prog 31 #[ag32 a b] w fun r w' => ∃ x y, r = .returned (ag32 x y) ∧ Is16 x (dU A B) ∧ Is16 y (dV A B) ∧ Below w.heap.size w w' := by
  show Calls Tryd.prog 31 #[.agg (c32 a b).toArray] w _
  have H1 := elt2_new w 40 ha hb
  have m1 : Below w.heap.size w (w.alloc (.cells (c32 a b).toArray 40)) := (Below.refl _ _).alloc (Nat.le_refl _) _
  have s1 : (w.alloc (.cells (c32 a b).toArray 40)).heap.size = w.heap.size + 1 := by simp
  obtain ⟨V1, hV1⟩ : ∃ V, V = (c32 a b).toArray := ⟨_, rfl⟩
  rw [← hV1] at H1 m1 s1 ⊢
  clear hV1 ha hb
  go_enter Tryd.func31, Tryd.ntmps31
  go_upto_region 1 with fail
  generalize w.alloc (.cells V1 40) = wc at *
  have TR : (wc.alloc zObj32).there wc.heap.size 0 32 := there_new wc _ _
  have m4 : Below wc.heap.size wc (wc.alloc zObj32) := (Below.refl _ _).alloc (Nat.le_refl _) _
  rw [s1] at TR
  have HP := H1.up m4
  have N := nxt m1 m4
  clear H1 m1 s1 m4
  obtain ⟨wr, hwr⟩ : ∃ W, W = wc.alloc zObj32 := ⟨_, rfl⟩
  rw [← hwr] at TR HP N
  change Code.wp _ _ _ _ (wc.alloc zObj32)
  rw [← hwr]
  clear hwr
  have lr := there_lt (by omega) TR
  refine region_new16 6 5 4 3 10 _ (fun i => [Fact.eq (.pointer (some ⟨w.heap.size, 0, none⟩)), EL (A), Fact.eq (.pointer (some ⟨w.heap.size, 16, none⟩)), EL (B), EL ((A) + (B)), NB wr 16].getD i Fact.no) ((A) + (B)) (by kernel_rfl) rfl rfl rfl (by kernel_rfl) (by kernel_rfl) rfl rfl ?_ ?_
  · intro i hi
    obtain rfl | rfl | rfl | rfl | rfl | rfl : i = 0 ∨ i = 1 ∨ i = 2 ∨ i = 3 ∨ i = 4 ∨ i = 5 := by omega
    · exact step_fld rfl 40 1 0 rfl (by kernel_rfl) _ _ rfl (fx32 _) rfl
    · exact step_elf rfl 36 6 0 rfl Go.Proofs.YtblkjpmkikhpbaaDoor.u50 i50 (by kernel_rfl) _ _ rfl _ HP.x rfl
    · exact step_fld rfl 40 1 1 rfl (by kernel_rfl) _ _ rfl (fy32 _) rfl
    · exact step_elf rfl 36 8 2 rfl Go.Proofs.YtblkjpmkikhpbaaDoor.u50 i50 (by kernel_rfl) _ _ rfl _ HP.y rfl
    · exact step_add rfl 7 9 1 3 _ _ rfl (by kernel_rfl) (by kernel_rfl) rfl rfl rfl
    · exact step_new16 rfl rfl rfl
  intro vs1 q3 W1 v3 l3 n E3' T3
  replace HP := HP.up n
  replace TR := there_up (by omega) TR n
  replace N := nxt N n
  have z3 := there_lt (by omega) T3
  clear n
  simp only [puts, v3, Act.put, List.setIfInBounds_toArray, List.set_cons_succ, List.set_cons_zero]
  clear v3
  go_upto_region 2 with fail
  refine region_new16 6 5 4 4 15 _ (fun i => [Fact.eq (.pointer (some ⟨w.heap.size, 0, none⟩)), EL (A), Fact.eq (.pointer (some ⟨w.heap.size, 16, none⟩)), EL (B), EL ((A) - (B)), NB W1 16].getD i Fact.no) ((A) - (B)) (by kernel_rfl) rfl rfl rfl (by kernel_rfl) (by kernel_rfl) rfl rfl ?_ ?_
  · intro i hi
    obtain rfl | rfl | rfl | rfl | rfl | rfl : i = 0 ∨ i = 1 ∨ i = 2 ∨ i = 3 ∨ i = 4 ∨ i = 5 := by omega
    · exact step_fld rfl 40 1 0 rfl (by kernel_rfl) _ _ rfl (fx32 _) rfl
    · exact step_elf rfl 36 11 0 rfl Go.Proofs.YtblkjpmkikhpbaaDoor.u50 i50 (by kernel_rfl) _ _ rfl _ HP.x rfl
    · exact step_fld rfl 40 1 1 rfl (by kernel_rfl) _ _ rfl (fy32 _) rfl
    · exact step_elf rfl 36 13 2 rfl Go.Proofs.YtblkjpmkikhpbaaDoor.u50 i50 (by kernel_rfl) _ _ rfl _ HP.y rfl
    · exact step_sub rfl 12 14 1 3 _ _ rfl (by kernel_rfl) (by kernel_rfl) rfl rfl rfl
    · exact step_new16 rfl rfl rfl
  intro vs2 q4 W2 v4 l4 n E4 T4
  replace E3' := E3'.up n
  replace TR := there_up (by omega) TR n
  replace T3 := there_up (by omega) T3 n
  replace N := nxt N n
  have z4 := there_lt (by omega) T4
  clear n HP
  simp only [puts, v4, Act.put, List.setIfInBounds_toArray, List.set_cons_succ, List.set_cons_zero]
  clear v4
  go_upto_region 3 with fail
  refine region_put16 3 2 3 18 _ (fun i => [EL ((A) + (B)), EL ((A) + (B)), EL (((A) + (B)) * ((A) + (B)))].getD i Fact.no) (((A) + (B)) * ((A) + (B))) _ (by kernel_rfl) rfl rfl rfl (by kernel_rfl) rfl T3 (by kernel_rfl) rfl ?_ ?_
  · intro i hi
    obtain rfl | rfl | rfl : i = 0 ∨ i = 1 ∨ i = 2 := by omega
    · exact step_el rfl 36 3 rfl Go.Proofs.YtblkjpmkikhpbaaDoor.u50 i50 (by kernel_rfl) _ _ rfl _ E3' rfl
    · exact step_el rfl 36 3 rfl Go.Proofs.YtblkjpmkikhpbaaDoor.u50 i50 (by kernel_rfl) _ _ rfl _ E3' rfl
    · exact step_mul rfl 16 17 0 1 _ _ rfl (by kernel_rfl) (by kernel_rfl) rfl rfl rfl
  intro vs3 Wa W3' n b E3n T3n nb
  replace E4 := E4.but b (by omega)
  replace T4 := there_but (by omega) T4 b (by omega)
  replace TR := there_but (by omega) TR b (by omega)
  replace N := nb w w.heap.size (nxt N n) (by omega)
  clear n b nb E3' T3
  simp only [puts, Act.put, List.setIfInBounds_toArray, List.set_cons_succ, List.set_cons_zero]
  go_upto_region 4 with fail
  refine region_put16 3 2 4 21 _ (fun i => [EL ((A) - (B)), EL ((A) - (B)), EL (((A) - (B)) * ((A) - (B)))].getD i Fact.no) (((A) - (B)) * ((A) - (B))) _ (by kernel_rfl) rfl rfl rfl (by kernel_rfl) rfl T4 (by kernel_rfl) rfl ?_ ?_
  · intro i hi
    obtain rfl | rfl | rfl : i = 0 ∨ i = 1 ∨ i = 2 := by omega
    · exact step_el rfl 36 4 rfl Go.Proofs.YtblkjpmkikhpbaaDoor.u50 i50 (by kernel_rfl) _ _ rfl _ E4 rfl
    · exact step_el rfl 36 4 rfl Go.Proofs.YtblkjpmkikhpbaaDoor.u50 i50 (by kernel_rfl) _ _ rfl _ E4 rfl
    · exact step_mul rfl 19 20 0 1 _ _ rfl (by kernel_rfl) (by kernel_rfl) rfl rfl rfl
  intro vs4 Wb W4' n b E4n T4n nb
  replace E3n := E3n.but b (by omega)
  replace TR := there_but (by omega) TR b (by omega)
  replace N := nb w w.heap.size (nxt N n) (by omega)
  clear n b nb E4 T4
  simp only [puts, Act.put, List.setIfInBounds_toArray, List.set_cons_succ, List.set_cons_zero]
  go_upto_region 5 with fail
  refine region_new16 4 3 2 5 24 _ (fun i => [EL (((A) + (B)) * ((A) + (B))), EL (((A) - (B)) * ((A) - (B))), EL ((((A) + (B)) * ((A) + (B))) - (((A) - (B)) * ((A) - (B)))), NB W4' 16].getD i Fact.no) ((((A) + (B)) * ((A) + (B))) - (((A) - (B)) * ((A) - (B)))) (by kernel_rfl) rfl rfl rfl (by kernel_rfl) (by kernel_rfl) rfl rfl ?_ ?_
  · intro i hi
    obtain rfl | rfl | rfl | rfl : i = 0 ∨ i = 1 ∨ i = 2 ∨ i = 3 := by omega
    · exact step_el rfl 36 3 rfl Go.Proofs.YtblkjpmkikhpbaaDoor.u50 i50 (by kernel_rfl) _ _ rfl _ E3n rfl
    · exact step_el rfl 36 4 rfl Go.Proofs.YtblkjpmkikhpbaaDoor.u50 i50 (by kernel_rfl) _ _ rfl _ E4n rfl
    · exact step_sub rfl 22 23 0 1 _ _ rfl (by kernel_rfl) (by kernel_rfl) rfl rfl rfl
    · exact step_new16 rfl rfl rfl
  intro vs5 q5 W5 v5 l5 n E5' T5
  replace E3n := E3n.up n
  replace E4n := E4n.up n
  replace TR := there_up (by omega) TR n
  replace N := nxt N n
  clear n T5
  simp only [puts, v5, Act.put, List.setIfInBounds_toArray, List.set_cons_succ, List.set_cons_zero]
  clear v5
  go_upto_region 6 with fail
  refine region_put32 11 10 2 35 _ (fun i => [EL (((A) + (B)) * ((A) + (B))), EL (((A) - (B)) * ((A) - (B))), EL ((((A) + (B)) * ((A) + (B))) * (((A) - (B)) * ((A) - (B)))), EL ((((A) + (B)) * ((A) + (B))) - (((A) - (B)) * ((A) - (B)))), EL (((A) + (B)) * ((A) + (B))), EL 121665, EL ((((A) + (B)) * ((A) + (B))) - (((A) - (B)) * ((A) - (B)))), EL ((121665) * ((((A) + (B)) * ((A) + (B))) - (((A) - (B)) * ((A) - (B))))), EL ((((A) + (B)) * ((A) + (B))) + ((121665) * ((((A) + (B)) * ((A) + (B))) - (((A) - (B)) * ((A) - (B)))))), EL (((((A) + (B)) * ((A) + (B))) - (((A) - (B)) * ((A) - (B)))) * ((((A) + (B)) * ((A) + (B))) + ((121665) * ((((A) + (B)) * ((A) + (B))) - (((A) - (B)) * ((A) - (B))))))), EP ((((A) + (B)) * ((A) + (B))) * (((A) - (B)) * ((A) - (B)))) (((((A) + (B)) * ((A) + (B))) - (((A) - (B)) * ((A) - (B)))) * ((((A) + (B)) * ((A) + (B))) + ((121665) * ((((A) + (B)) * ((A) + (B))) - (((A) - (B)) * ((A) - (B)))))))].getD i Fact.no) ((((A) + (B)) * ((A) + (B))) * (((A) - (B)) * ((A) - (B)))) (((((A) + (B)) * ((A) + (B))) - (((A) - (B)) * ((A) - (B)))) * ((((A) + (B)) * ((A) + (B))) + ((121665) * ((((A) + (B)) * ((A) + (B))) - (((A) - (B)) * ((A) - (B))))))) _ (by kernel_rfl) rfl rfl rfl (by kernel_rfl) rfl TR (by kernel_rfl) rfl ?_ ?_
  · intro i hi
    obtain rfl | rfl | rfl | rfl | rfl | rfl | rfl | rfl | rfl | rfl | rfl : i = 0 ∨ i = 1 ∨ i = 2 ∨ i = 3 ∨ i = 4 ∨ i = 5 ∨ i = 6 ∨ i = 7 ∨ i = 8 ∨ i = 9 ∨ i = 10 := by omega
    · exact step_el rfl 36 3 rfl Go.Proofs.YtblkjpmkikhpbaaDoor.u50 i50 (by kernel_rfl) _ _ rfl _ E3n rfl
    · exact step_el rfl 36 4 rfl Go.Proofs.YtblkjpmkikhpbaaDoor.u50 i50 (by kernel_rfl) _ _ rfl _ E4n rfl
    · exact step_mul rfl 25 26 0 1 _ _ rfl (by kernel_rfl) (by kernel_rfl) rfl rfl rfl
    · exact step_el rfl 36 5 rfl Go.Proofs.YtblkjpmkikhpbaaDoor.u50 i50 (by kernel_rfl) _ _ rfl _ E5' rfl
    · exact step_el rfl 36 3 rfl Go.Proofs.YtblkjpmkikhpbaaDoor.u50 i50 (by kernel_rfl) _ _ rfl _ E3n rfl
    · exact step_small rfl 121665 (by omega) rfl rfl
    · exact step_el rfl 36 5 rfl Go.Proofs.YtblkjpmkikhpbaaDoor.u50 i50 (by kernel_rfl) _ _ rfl _ E5' rfl
    · exact step_mul rfl 30 31 5 6 _ _ rfl (by kernel_rfl) (by kernel_rfl) rfl rfl rfl
    · exact step_add rfl 29 32 4 7 _ _ rfl (by kernel_rfl) (by kernel_rfl) rfl rfl rfl
    · exact step_mul rfl 28 33 3 8 _ _ rfl (by kernel_rfl) (by kernel_rfl) rfl rfl rfl
    · exact step_b32 rfl 27 34 2 9 _ _ rfl (by kernel_rfl) (by kernel_rfl) rfl rfl rfl
  intro vs6 Wd W6 n b ER T6 nb
  have NS := nb w w.heap.size (nxt N n) (by omega)
  clear n b nb E3n E4n E5' TR T6 N T3n T4n
  simp only [puts, Act.put, List.setIfInBounds_toArray, List.set_cons_succ, List.set_cons_zero]
  obtain ⟨x, y, rg, _, hx, hy⟩ := ER
  have hy' : Is16 y (dV A B) := by rw [← dV_alt]; exact hy
  have lz : (c32 x y).length = 32 := c32_len x y
  go_wp2
  obtain ⟨fs, hfs⟩ := u32p
  exact bodyPost_ret (v := ag32 x y) (results_cell_mid Tryd.results31 _ _ (w.heap.size + 1) (c32 x y) _ rfl rg hfs rfl (by rw [lz]; exact i32p)) rfl ⟨x, y, rfl, hx, hy', NS⟩

set_option maxHeartbeats 4000000 in
theorem l4Sum_any (w : World) (a b c d e : Nat → Int) (A B C D X : Int) (ha : Is16 a A) (hb : Is16 b B) (hc : Is16 c C) (hd : Is16 d D) (he : Is16 e X) :
    Calls Tryd.prog 30 #[ag32 a b, ag32 c d, ag16 e] w fun r w' => ∃ x y, r = .returned (ag32 x y) ∧ Is16 x (sU A B C D) ∧ Is16 y (sV X A B C D) ∧ Below w.heap.size w w' := by
  show Calls Tryd.prog 30 #[.agg (c32 a b).toArray, .agg (c32 c d).toArray, .agg (a16 e)] w _
  have H1 := elt2_new w 40 ha hb
  have m1 : Below w.heap.size w (w.alloc (.cells (c32 a b).toArray 40)) := (Below.refl _ _).alloc (Nat.le_refl _) _
  have s1 : (w.alloc (.cells (c32 a b).toArray 40)).heap.size = w.heap.size + 1 := by simp
  have H2 := fun W => elt2_new W 40 hc hd
  have H3 := fun W => elt_new W 36 he
  obtain ⟨V1, hV1⟩ : ∃ V, V = (c32 a b).toArray := ⟨_, rfl⟩
  obtain ⟨V2, hV2⟩ : ∃ V, V = (c32 c d).toArray := ⟨_, rfl⟩
  obtain ⟨V3, hV3⟩ : ∃ V, V = a16 e := ⟨_, rfl⟩
  rw [← hV1] at H1 m1 s1 ⊢
  simp only [← hV2] at H2 ⊢
  simp only [← hV3] at H3 ⊢
  clear hV1 hV2 hV3 ha hb hc hd he
  go_enter Tryd.func30, Tryd.ntmps30
  go_upto_region 1 with fail
  generalize w.alloc (.cells V1 40) = wa at *
  have H2' := H2 wa
  have m2 : Below wa.heap.size wa (wa.alloc (.cells V2 40)) := (Below.refl _ _).alloc (Nat.le_refl _) _
  have s2 : (wa.alloc (.cells V2 40)).heap.size = wa.heap.size + 1 := by simp
  rw [s1] at H2' s2
  generalize wa.alloc (.cells V2 40) = wb at *
  have H3' := H3 wb
  have m3 : Below wb.heap.size wb (wb.alloc (.cells V3 36)) := (Below.refl _ _).alloc (Nat.le_refl _) _
  have s3 : (wb.alloc (.cells V3 36)).heap.size = wb.heap.size + 1 := by simp
  rw [s2] at H3' s3
  generalize wb.alloc (.cells V3 36) = wc at *
  have TR : (wc.alloc zObj32).there wc.heap.size 0 32 := there_new wc _ _
  have m4 : Below wc.heap.size wc (wc.alloc zObj32) := (Below.refl _ _).alloc (Nat.le_refl _) _
  rw [s3] at TR
  have HP := ((H1.up m2).up m3).up m4
  have HQ := (H2'.up m3).up m4
  have HD := H3'.up m4
  have N := nxt (nxt (nxt m1 m2) m3) m4
  clear H1 H2 H3 H2' H3' m1 m2 m3 s1 s2 s3 m4
  obtain ⟨wr, hwr⟩ : ∃ W, W = wc.alloc zObj32 := ⟨_, rfl⟩
  rw [← hwr] at TR HP HQ HD N
  change Code.wp _ _ _ _ (wc.alloc zObj32)
  rw [← hwr]
  clear hwr
  refine region_new16 12 11 10 7 21 _ (fun i => [Fact.eq (.pointer (some ⟨(w.heap.size + 1), 0, none⟩)), EL (C), Fact.eq (.pointer (some ⟨(w.heap.size + 1), 16, none⟩)), EL (D), EL ((C) - (D)), Fact.eq (.pointer (some ⟨w.heap.size, 0, none⟩)), EL (A), Fact.eq (.pointer (some ⟨w.heap.size, 16, none⟩)), EL (B), EL ((A) + (B)), EL (((C) - (D)) * ((A) + (B))), NB wr 16].getD i Fact.no) (((C) - (D)) * ((A) + (B))) (by kernel_rfl) rfl rfl rfl (by kernel_rfl) (by kernel_rfl) rfl rfl ?_ ?_
  · intro i hi
    obtain rfl | rfl | rfl | rfl | rfl | rfl | rfl | rfl | rfl | rfl | rfl | rfl : i = 0 ∨ i = 1 ∨ i = 2 ∨ i = 3 ∨ i = 4 ∨ i = 5 ∨ i = 6 ∨ i = 7 ∨ i = 8 ∨ i = 9 ∨ i = 10 ∨ i = 11 := by omega
    · exact step_fld rfl 40 4 0 rfl (by kernel_rfl) _ _ rfl (fx32 _) rfl
    · exact step_elf rfl 36 11 0 rfl Go.Proofs.YtblkjpmkikhpbaaDoor.u50 i50 (by kernel_rfl) _ _ rfl _ HQ.x rfl
    · exact step_fld rfl 40 4 1 rfl (by kernel_rfl) _ _ rfl (fy32 _) rfl
    · exact step_elf rfl 36 13 2 rfl Go.Proofs.YtblkjpmkikhpbaaDoor.u50 i50 (by kernel_rfl) _ _ rfl _ HQ.y rfl
    · exact step_sub rfl 12 14 1 3 _ _ rfl (by kernel_rfl) (by kernel_rfl) rfl rfl rfl
    · exact step_fld rfl 40 3 0 rfl (by kernel_rfl) _ _ rfl (fx32 _) rfl
    · exact step_elf rfl 36 16 5 rfl Go.Proofs.YtblkjpmkikhpbaaDoor.u50 i50 (by kernel_rfl) _ _ rfl _ HP.x rfl
    · exact step_fld rfl 40 3 1 rfl (by kernel_rfl) _ _ rfl (fy32 _) rfl
    · exact step_elf rfl 36 18 7 rfl Go.Proofs.YtblkjpmkikhpbaaDoor.u50 i50 (by kernel_rfl) _ _ rfl _ HP.y rfl
    · exact step_add rfl 17 19 6 8 _ _ rfl (by kernel_rfl) (by kernel_rfl) rfl rfl rfl
    · exact step_mul rfl 15 20 4 9 _ _ rfl (by kernel_rfl) (by kernel_rfl) rfl rfl rfl
    · exact step_new16 rfl rfl rfl
  intro vs1 q7 W1 v7 l7 n E7 T7
  replace HP := HP.up n
  replace HQ := HQ.up n
  replace HD := HD.up n
  replace TR := there_up (by omega) TR n
  replace N := nxt N n
  clear n T7
  simp only [puts, v7, Act.put, List.setIfInBounds_toArray, List.set_cons_succ, List.set_cons_zero]
  clear v7
  go_upto_region 2 with fail
  refine region_new16 12 11 10 8 32 _ (fun i => [Fact.eq (.pointer (some ⟨(w.heap.size + 1), 0, none⟩)), EL (C), Fact.eq (.pointer (some ⟨(w.heap.size + 1), 16, none⟩)), EL (D), EL ((C) + (D)), Fact.eq (.pointer (some ⟨w.heap.size, 0, none⟩)), EL (A), Fact.eq (.pointer (some ⟨w.heap.size, 16, none⟩)), EL (B), EL ((A) - (B)), EL (((C) + (D)) * ((A) - (B))), NB W1 16].getD i Fact.no) (((C) + (D)) * ((A) - (B))) (by kernel_rfl) rfl rfl rfl (by kernel_rfl) (by kernel_rfl) rfl rfl ?_ ?_
  · intro i hi
    obtain rfl | rfl | rfl | rfl | rfl | rfl | rfl | rfl | rfl | rfl | rfl | rfl : i = 0 ∨ i = 1 ∨ i = 2 ∨ i = 3 ∨ i = 4 ∨ i = 5 ∨ i = 6 ∨ i = 7 ∨ i = 8 ∨ i = 9 ∨ i = 10 ∨ i = 11 := by omega
    · exact step_fld rfl 40 4 0 rfl (by kernel_rfl) _ _ rfl (fx32 _) rfl
    · exact step_elf rfl 36 22 0 rfl Go.Proofs.YtblkjpmkikhpbaaDoor.u50 i50 (by kernel_rfl) _ _ rfl _ HQ.x rfl
    · exact step_fld rfl 40 4 1 rfl (by kernel_rfl) _ _ rfl (fy32 _) rfl
    · exact step_elf rfl 36 24 2 rfl Go.Proofs.YtblkjpmkikhpbaaDoor.u50 i50 (by kernel_rfl) _ _ rfl _ HQ.y rfl
    · exact step_add rfl 23 25 1 3 _ _ rfl (by kernel_rfl) (by kernel_rfl) rfl rfl rfl
    · exact step_fld rfl 40 3 0 rfl (by kernel_rfl) _ _ rfl (fx32 _) rfl
    · exact step_elf rfl 36 27 5 rfl Go.Proofs.YtblkjpmkikhpbaaDoor.u50 i50 (by kernel_rfl) _ _ rfl _ HP.x rfl
    · exact step_fld rfl 40 3 1 rfl (by kernel_rfl) _ _ rfl (fy32 _) rfl
    · exact step_elf rfl 36 29 7 rfl Go.Proofs.YtblkjpmkikhpbaaDoor.u50 i50 (by kernel_rfl) _ _ rfl _ HP.y rfl
    · exact step_sub rfl 28 30 6 8 _ _ rfl (by kernel_rfl) (by kernel_rfl) rfl rfl rfl
    · exact step_mul rfl 26 31 4 9 _ _ rfl (by kernel_rfl) (by kernel_rfl) rfl rfl rfl
    · exact step_new16 rfl rfl rfl
  intro vs2 q8 W2 v8 l8 n E8 T8
  replace HD := HD.up n
  replace E7 := E7.up n
  replace TR := there_up (by omega) TR n
  replace N := nxt N n
  clear n T8 HP HQ
  simp only [puts, v8, Act.put, List.setIfInBounds_toArray, List.set_cons_succ, List.set_cons_zero]
  clear v8
  go_upto_region 3 with fail
  refine region_new16 4 3 2 9 35 _ (fun i => [EL (((C) - (D)) * ((A) + (B))), EL (((C) + (D)) * ((A) - (B))), EL ((((C) - (D)) * ((A) + (B))) + (((C) + (D)) * ((A) - (B)))), NB W2 16].getD i Fact.no) ((((C) - (D)) * ((A) + (B))) + (((C) + (D)) * ((A) - (B)))) (by kernel_rfl) rfl rfl rfl (by kernel_rfl) (by kernel_rfl) rfl rfl ?_ ?_
  · intro i hi
    obtain rfl | rfl | rfl | rfl : i = 0 ∨ i = 1 ∨ i = 2 ∨ i = 3 := by omega
    · exact step_el rfl 36 7 rfl Go.Proofs.YtblkjpmkikhpbaaDoor.u50 i50 (by kernel_rfl) _ _ rfl _ E7 rfl
    · exact step_el rfl 36 8 rfl Go.Proofs.YtblkjpmkikhpbaaDoor.u50 i50 (by kernel_rfl) _ _ rfl _ E8 rfl
    · exact step_add rfl 33 34 0 1 _ _ rfl (by kernel_rfl) (by kernel_rfl) rfl rfl rfl
    · exact step_new16 rfl rfl rfl
  intro vs3 q9 W3' v9 l9 n E9 T9
  replace HD := HD.up n
  replace E7 := E7.up n
  replace E8 := E8.up n
  replace TR := there_up (by omega) TR n
  replace N := nxt N n
  clear n T9
  simp only [puts, v9, Act.put, List.setIfInBounds_toArray, List.set_cons_succ, List.set_cons_zero]
  clear v9
  go_upto_region 4 with fail
  refine region_new16 4 3 2 10 38 _ (fun i => [EL (((C) - (D)) * ((A) + (B))), EL (((C) + (D)) * ((A) - (B))), EL ((((C) - (D)) * ((A) + (B))) - (((C) + (D)) * ((A) - (B)))), NB W3' 16].getD i Fact.no) ((((C) - (D)) * ((A) + (B))) - (((C) + (D)) * ((A) - (B)))) (by kernel_rfl) rfl rfl rfl (by kernel_rfl) (by kernel_rfl) rfl rfl ?_ ?_
  · intro i hi
    obtain rfl | rfl | rfl | rfl : i = 0 ∨ i = 1 ∨ i = 2 ∨ i = 3 := by omega
    · exact step_el rfl 36 7 rfl Go.Proofs.YtblkjpmkikhpbaaDoor.u50 i50 (by kernel_rfl) _ _ rfl _ E7 rfl
    · exact step_el rfl 36 8 rfl Go.Proofs.YtblkjpmkikhpbaaDoor.u50 i50 (by kernel_rfl) _ _ rfl _ E8 rfl
    · exact step_sub rfl 36 37 0 1 _ _ rfl (by kernel_rfl) (by kernel_rfl) rfl rfl rfl
    · exact step_new16 rfl rfl rfl
  intro vs4 q10 W4' v10 l10 n E10 T10
  replace HD := HD.up n
  replace E9 := E9.up n
  replace TR := there_up (by omega) TR n
  replace N := nxt N n
  clear n T10 E7 E8
  simp only [puts, v10, Act.put, List.setIfInBounds_toArray, List.set_cons_succ, List.set_cons_zero]
  clear v10
  go_upto_region 5 with fail
  refine region_put32 9 8 6 47 _ (fun i => [EL ((((C) - (D)) * ((A) + (B))) + (((C) + (D)) * ((A) - (B)))), EL ((((C) - (D)) * ((A) + (B))) + (((C) + (D)) * ((A) - (B)))), EL (((((C) - (D)) * ((A) + (B))) + (((C) + (D)) * ((A) - (B)))) * ((((C) - (D)) * ((A) + (B))) + (((C) + (D)) * ((A) - (B))))), EL (X), EL ((((C) - (D)) * ((A) + (B))) - (((C) + (D)) * ((A) - (B)))), EL ((((C) - (D)) * ((A) + (B))) - (((C) + (D)) * ((A) - (B)))), EL (((((C) - (D)) * ((A) + (B))) - (((C) + (D)) * ((A) - (B)))) * ((((C) - (D)) * ((A) + (B))) - (((C) + (D)) * ((A) - (B))))), EL ((X) * (((((C) - (D)) * ((A) + (B))) - (((C) + (D)) * ((A) - (B)))) * ((((C) - (D)) * ((A) + (B))) - (((C) + (D)) * ((A) - (B)))))), EP (((((C) - (D)) * ((A) + (B))) + (((C) + (D)) * ((A) - (B)))) * ((((C) - (D)) * ((A) + (B))) + (((C) + (D)) * ((A) - (B))))) ((X) * (((((C) - (D)) * ((A) + (B))) - (((C) + (D)) * ((A) - (B)))) * ((((C) - (D)) * ((A) + (B))) - (((C) + (D)) * ((A) - (B))))))].getD i Fact.no) (((((C) - (D)) * ((A) + (B))) + (((C) + (D)) * ((A) - (B)))) * ((((C) - (D)) * ((A) + (B))) + (((C) + (D)) * ((A) - (B))))) ((X) * (((((C) - (D)) * ((A) + (B))) - (((C) + (D)) * ((A) - (B)))) * ((((C) - (D)) * ((A) + (B))) - (((C) + (D)) * ((A) - (B)))))) _ (by kernel_rfl) rfl rfl rfl (by kernel_rfl) rfl TR (by kernel_rfl) rfl ?_ ?_
  · intro i hi
    obtain rfl | rfl | rfl | rfl | rfl | rfl | rfl | rfl | rfl : i = 0 ∨ i = 1 ∨ i = 2 ∨ i = 3 ∨ i = 4 ∨ i = 5 ∨ i = 6 ∨ i = 7 ∨ i = 8 := by omega
    · exact step_el rfl 36 9 rfl Go.Proofs.YtblkjpmkikhpbaaDoor.u50 i50 (by kernel_rfl) _ _ rfl _ E9 rfl
    · exact step_el rfl 36 9 rfl Go.Proofs.YtblkjpmkikhpbaaDoor.u50 i50 (by kernel_rfl) _ _ rfl _ E9 rfl
    · exact step_mul rfl 39 40 0 1 _ _ rfl (by kernel_rfl) (by kernel_rfl) rfl rfl rfl
    · exact step_el rfl 36 5 rfl Go.Proofs.YtblkjpmkikhpbaaDoor.u50 i50 (by kernel_rfl) _ _ rfl _ HD rfl
    · exact step_el rfl 36 10 rfl Go.Proofs.YtblkjpmkikhpbaaDoor.u50 i50 (by kernel_rfl) _ _ rfl _ E10 rfl
    · exact step_el rfl 36 10 rfl Go.Proofs.YtblkjpmkikhpbaaDoor.u50 i50 (by kernel_rfl) _ _ rfl _ E10 rfl
    · exact step_mul rfl 43 44 4 5 _ _ rfl (by kernel_rfl) (by kernel_rfl) rfl rfl rfl
    · exact step_mul rfl 42 45 3 6 _ _ rfl (by kernel_rfl) (by kernel_rfl) rfl rfl rfl
    · exact step_b32 rfl 41 46 2 7 _ _ rfl (by kernel_rfl) (by kernel_rfl) rfl rfl rfl
  intro vs5 Wd W5 n b ER T6 nb
  have NS := nb w w.heap.size (nxt N n) (by omega)
  clear n b nb HD E9 E10 TR T6 N
  simp only [puts, Act.put, List.setIfInBounds_toArray, List.set_cons_succ, List.set_cons_zero]
  obtain ⟨x, y, rg, _, hx, hy⟩ := ER
  have lz : (c32 x y).length = 32 := c32_len x y
  go_wp2
  obtain ⟨fs, hfs⟩ := u32p
  exact bodyPost_ret (v := ag32 x y) (results_cell_mid Tryd.results30 _ _ (w.heap.size + 1 + 1 + 1) (c32 x y) _ rfl rg hfs rfl (by rw [lz]; exact i32p)) rfl ⟨x, y, rfl, hx, hy, NS⟩
end Go.Proofs.YtblkjpmkikhpbaaDoor
