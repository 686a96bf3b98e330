import Derived.Test.YtliahigljoeeoaaGreatDoorGP40
import Derived.Test.YtliahigljoeeoaaGreatDoorGP43
import Derived.Test.YtliahigljoeeoaaGreatDoorGP42
import Derived.Test.YtliahigljoeeoaaGreatDoorDr
import Derived.Test.YtliahigljoeeoaaGreatDoorS1
import Derived.Test.YtliahigljoeeoaaGreatDoorGP37
import Derived.BigFrame

/-
  The model's PointAdd.
-/
namespace Go.Proofs.YtliahigljoeeoaaGreatDoor
set_option maxRecDepth 100000
open Go Go.RowKit

theorem of_up5 {W W' : World} {a : Option Addr} {px : List Int} (h : OfOk W a px) (n : Below W.heap.size W W') : OfOk W' a px := by
  obtain ⟨g, r, b, l⟩ := h
  exact ⟨g, r.up n, b, l⟩
theorem valid_len {px py : List Int} (h : validP px py = true) : px.length = 32 ∧ py.length = 32 := by
  unfold validP at h
  simp only [Bool.and_eq_true] at h
  exact ⟨can_len h.1.1, can_len h.1.2⟩
/-- The coordinates of the sum, as bytes; nothing, if one of the points is none. -/
def paX (px py qx qy : List Int) : List Int := if validP px py = true ∧ validP qx qy = true then fill (byt (addX (num px, num py) (num qx, num qy) % PP)) 32 else []
def paY (px py qx qy : List Int) : List Int := if validP px py = true ∧ validP qx qy = true then fill (byt (addY (num px, num py) (num qx, num qy) % PP)) 32 else []
theorem newPt_nil {B : Nat} {w : World} : NewPt B w (.returned (.agg #[.slice none 0 0, .slice none 0 0])) [] [] := ⟨none, none, 0, 0, B, B, rfl, Own.nil _ _ _ _, Own.nil _ _ _ _, Nat.le_refl _, Nat.le_refl _⟩

set_option maxHeartbeats 2000000 in
theorem specPointAdd_any (w : World) (g1 g2 g3 g4 : Nat) (a1 a2 a3 a4 : Option Addr) (c1 c2 c3 c4 : Nat) (px py qx qy : List Int) (hx : Rd w g1 a1 .u8 px) (hy : Rd w g2 a2 .u8 py) (hu : Rd w g3 a3 .u8 qx) (hv : Rd w g4 a4 .u8 qy) (bx : Byt px) (by' : Byt py) (bu : Byt qx) (bv : Byt qy) :
    Calls Tryz.prog 154 #[.agg #[.slice a1 px.length c1, .slice a2 py.length c2], .agg #[.slice a3 qx.length c3, .slice a4 qy.length c4]] w fun r w' => NewPt w.heap.size w' r (paX px py qx qy) (paY px py qx qy) ∧ Below w.heap.size w w' := by
  have T := two_cells w (.slice a1 px.length c1) (.slice a2 py.length c2) 37
  have T2 := fun W => two_cells W (.slice a3 qx.length c3) (.slice a4 qy.length c4) 37
  have m1 : Below w.heap.size w (w.alloc (.cells #[.slice a1 px.length c1, .slice a2 py.length c2] 37)) := (Below.refl _ _).alloc (Nat.le_refl _) _
  have s1 : (w.alloc (.cells #[.slice a1 px.length c1, .slice a2 py.length c2] 37)).heap.size = w.heap.size + 1 := by simp
  have PV1 := fun W h h' => pointValid_any W g1 g2 a1 a2 c1 c2 px py h h' bx by'
  have PV2 := fun W h h' => pointValid_any W g3 g4 a3 a4 c3 c4 qx qy h h' bu bv
  obtain ⟨CX, CY⟩ := T
  go_enter Tryz.func154, Tryz.ntmps154
  go_upto_region 1 with fail
  generalize w.alloc (.cells #[.slice a1 px.length c1, .slice a2 py.length c2] 37) = wa at *
  have T2' := T2 wa
  have m2 : Below wa.heap.size wa (wa.alloc (.cells #[.slice a3 qx.length c3, .slice a4 qy.length c4] 37)) := (Below.refl _ _).alloc (Nat.le_refl _) _
  have s2 : (wa.alloc (.cells #[.slice a3 qx.length c3, .slice a4 qy.length c4] 37)).heap.size = wa.heap.size + 1 := by simp
  rw [s1] at T2' s2
  obtain ⟨CU, CV⟩ := T2'
  generalize wa.alloc (.cells #[.slice a3 qx.length c3, .slice a4 qy.length c4] 37) = wb at *
  change Code.wp _ _ _ _ (wb.alloc pObj)
  have TR := there_p wb
  have TZ : Two (wb.alloc pObj) wb.heap.size (.slice none 0 0) (.slice none 0 0) := Two.new wb (.slice none 0 0) (.slice none 0 0) 37
  have m3 : Below wb.heap.size wb (wb.alloc pObj) := (Below.refl _ _).alloc (Nat.le_refl _) _
  rw [s2] at TR TZ
  replace CX := ((nxt m2 m3).cell (block_lt_of_cell CX)).trans CX
  replace CY := ((nxt m2 m3).cell (block_lt_of_cell CY)).trans CY
  replace CU := (m3.cell (block_lt_of_cell CU)).trans CU
  replace CV := (m3.cell (block_lt_of_cell CV)).trans CV
  have N := nxt (nxt m1 m2) m3
  have RX := hx.up N
  have RY := hy.up N
  have RU := hu.up N
  have RV := hv.up N
  clear hx hy hu hv T2 m1 m2 m3 s1 s2
  generalize wb.alloc pObj = wr at *
  cases h1 : validP px py with
  | false =>
    have KX : Hid (paX px py qx qy = []) := by show _ = _; unfold paX; rw [if_neg (fun h => by rw [h1] at h; simp at h)]
    have KY : Hid (paY px py qx qy = []) := by show _ = _; unfold paY; rw [if_neg (fun h => by rw [h1] at h; simp at h)]
    simp only [h1] at PV1
    go_wp2_with fail
    refine (PV1 wr RX RY).mono ?_
    rintro e w1 ⟨rfl, n1⟩
    replace N := nxt N n1
    obtain ⟨y0, y1, f0, f1⟩ := TZ.up n1
    clear PV1 PV2 n1 CX CY CU CV RX RY RU RV TR TZ
    go_wp2
    refine bodyPost_ret (v := .agg #[.slice none 0 0, .slice none 0 0]) (by simp [results, Tryz.results154, go_sem, y0, y1]) rfl ⟨by rw [KX.out, KY.out]; exact newPt_nil, ?_⟩
    exact (N.setCell (by show w.heap.size ≤ w.heap.size + 1 + 1; omega) _).setCell (by show w.heap.size ≤ w.heap.size + 1 + 1; omega) _
  | true =>
    simp only [h1] at PV1
    go_wp2_with fail
    refine (PV1 wr RX RY).mono ?_
    rintro e w1 ⟨rfl, n1⟩
    replace CX := (n1.cell (block_lt_of_cell CX)).trans CX
    replace CY := (n1.cell (block_lt_of_cell CY)).trans CY
    replace CU := (n1.cell (block_lt_of_cell CU)).trans CU
    replace CV := (n1.cell (block_lt_of_cell CV)).trans CV
    replace RX := RX.up n1
    replace RY := RY.up n1
    replace RU := RU.up n1
    replace RV := RV.up n1
    replace N := nxt N n1
    replace TR := there_up (by omega) TR n1
    replace TZ := TZ.up n1
    clear PV1 n1
    cases h2 : validP qx qy with
    | false =>
      have KX : Hid (paX px py qx qy = []) := by show _ = _; unfold paX; rw [if_neg (fun h => by rw [h2] at h; simp at h)]
      have KY : Hid (paY px py qx qy = []) := by show _ = _; unfold paY; rw [if_neg (fun h => by rw [h2] at h; simp at h)]
      simp only [h2] at PV2
      go_wp2_with fail
      refine (PV2 w1 RU RV).mono ?_
      rintro e w2 ⟨rfl, n1⟩
      replace N := nxt N n1
      obtain ⟨y0, y1, f0, f1⟩ := TZ.up n1
      clear PV2 n1 CX CY CU CV RX RY RU RV TR TZ
      go_wp2
      refine bodyPost_ret (v := .agg #[.slice none 0 0, .slice none 0 0]) (by simp [results, Tryz.results154, go_sem, y0, y1]) rfl ⟨by rw [KX.out, KY.out]; exact newPt_nil, ?_⟩
      exact (N.setCell (by show w.heap.size ≤ w.heap.size + 1 + 1; omega) _).setCell (by show w.heap.size ≤ w.heap.size + 1 + 1; omega) _
    | true =>
      have KX : Hid (paX px py qx qy = fill (byt (addX (num px, num py) (num qx, num qy) % PP)) 32) := by show _ = _; unfold paX; rw [if_pos ⟨h1, h2⟩]
      have KY : Hid (paY px py qx qy = fill (byt (addY (num px, num py) (num qx, num qy) % PP)) 32) := by show _ = _; unfold paY; rw [if_pos ⟨h1, h2⟩]
      have l1 := hide (valid_len h1)
      have l2 := hide (valid_len h2)
      simp only [h2] at PV2
      go_wp2_with fail
      refine (PV2 w1 RU RV).mono ?_
      rintro e w2 ⟨rfl, n1⟩
      replace CX := (n1.cell (block_lt_of_cell CX)).trans CX
      replace CY := (n1.cell (block_lt_of_cell CY)).trans CY
      replace CU := (n1.cell (block_lt_of_cell CU)).trans CU
      replace CV := (n1.cell (block_lt_of_cell CV)).trans CV
      have OX := hide (of_ok (RX.up n1) bx l1.1)
      have OY := hide (of_ok (RY.up n1) by' l1.2)
      have OU := hide (of_ok (RU.up n1) bu l2.1)
      have OV := hide (of_ok (RV.up n1) bv l2.2)
      replace N := nxt N n1
      replace TR := there_up (by omega) TR n1
      clear PV2 n1 RX RY RU RV TZ h1 h2 l1 l2
      go_upto_region 3 with fail
      refine region_new16 4 3 2 5 23 _ (fun i => [Fact.eq (.pointer (some ⟨w.heap.size, 0, none⟩)), Fact.eq (.slice a1 px.length c1), EL (num px), NB w2 16].getD i Fact.no) (num px) (by kernel_rfl) rfl rfl rfl (by kernel_rfl) (by kernel_rfl) rfl rfl ?_ ?_
      · intro i hi
        obtain rfl | rfl | rfl | rfl : i = 0 ∨ i = 1 ∨ i = 2 ∨ i = 3 := by omega
        · exact step_fld rfl 37 2 0 rfl (by kernel_rfl) _ _ rfl (fxP _) rfl
        · exact step_lds rfl 21 0 rfl (by kernel_rfl) _ _ rfl _ _ _ CX rfl
        · exact step_of rfl 22 1 rfl (by kernel_rfl) OX.out rfl rfl
        · exact step_new16 rfl rfl rfl
      intro qy3 q5 W3' v5 l5 n E5 T5
      replace CX := (n.cell (block_lt_of_cell CX)).trans CX
      replace CY := (n.cell (block_lt_of_cell CY)).trans CY
      replace CU := (n.cell (block_lt_of_cell CU)).trans CU
      replace CV := (n.cell (block_lt_of_cell CV)).trans CV
      replace OX := hide (of_up5 OX.out n)
      replace OY := hide (of_up5 OY.out n)
      replace OU := hide (of_up5 OU.out n)
      replace OV := hide (of_up5 OV.out n)
      replace TR := there_up (by omega) TR n
      replace N := nxt N n
      clear n T5
      simp only [puts, v5, Act.put, List.setIfInBounds_toArray, List.set_cons_succ, List.set_cons_zero]
      clear v5
      go_upto_region 4 with fail
      refine region_new16 4 3 2 6 26 _ (fun i => [Fact.eq (.pointer (some ⟨w.heap.size, 1, none⟩)), Fact.eq (.slice a2 py.length c2), EL (num py), NB W3' 16].getD i Fact.no) (num py) (by kernel_rfl) rfl rfl rfl (by kernel_rfl) (by kernel_rfl) rfl rfl ?_ ?_
      · intro i hi
        obtain rfl | rfl | rfl | rfl : i = 0 ∨ i = 1 ∨ i = 2 ∨ i = 3 := by omega
        · exact step_fld rfl 37 2 1 rfl (by kernel_rfl) _ _ rfl (fyP _) rfl
        · exact step_lds rfl 24 0 rfl (by kernel_rfl) _ _ rfl _ _ _ CY rfl
        · exact step_of rfl 25 1 rfl (by kernel_rfl) OY.out rfl rfl
        · exact step_new16 rfl rfl rfl
      intro qy4 q6 W4' v6 l6 n E6 T6
      replace CX := (n.cell (block_lt_of_cell CX)).trans CX
      replace CY := (n.cell (block_lt_of_cell CY)).trans CY
      replace CU := (n.cell (block_lt_of_cell CU)).trans CU
      replace CV := (n.cell (block_lt_of_cell CV)).trans CV
      replace OX := hide (of_up5 OX.out n)
      replace OY := hide (of_up5 OY.out n)
      replace OU := hide (of_up5 OU.out n)
      replace OV := hide (of_up5 OV.out n)
      replace E5 := E5.up n
      replace TR := there_up (by omega) TR n
      replace N := nxt N n
      clear n T6
      simp only [puts, v6, Act.put, List.setIfInBounds_toArray, List.set_cons_succ, List.set_cons_zero]
      clear v6
      go_upto_region 5 with fail
      refine region_new16 4 3 2 7 29 _ (fun i => [Fact.eq (.pointer (some ⟨(w.heap.size + 1), 0, none⟩)), Fact.eq (.slice a3 qx.length c3), EL (num qx), NB W4' 16].getD i Fact.no) (num qx) (by kernel_rfl) rfl rfl rfl (by kernel_rfl) (by kernel_rfl) rfl rfl ?_ ?_
      · intro i hi
        obtain rfl | rfl | rfl | rfl : i = 0 ∨ i = 1 ∨ i = 2 ∨ i = 3 := by omega
        · exact step_fld rfl 37 3 0 rfl (by kernel_rfl) _ _ rfl (fxP _) rfl
        · exact step_lds rfl 27 0 rfl (by kernel_rfl) _ _ rfl _ _ _ CU rfl
        · exact step_of rfl 28 1 rfl (by kernel_rfl) OU.out rfl rfl
        · exact step_new16 rfl rfl rfl
      intro qy5 q7 W5 v7 l7 n E7 T7
      replace CX := (n.cell (block_lt_of_cell CX)).trans CX
      replace CY := (n.cell (block_lt_of_cell CY)).trans CY
      replace CU := (n.cell (block_lt_of_cell CU)).trans CU
      replace CV := (n.cell (block_lt_of_cell CV)).trans CV
      replace OX := hide (of_up5 OX.out n)
      replace OY := hide (of_up5 OY.out n)
      replace OU := hide (of_up5 OU.out n)
      replace OV := hide (of_up5 OV.out n)
      replace E5 := E5.up n
      replace E6 := E6.up n
      replace TR := there_up (by omega) TR n
      replace N := nxt N n
      clear n T7
      simp only [puts, v7, Act.put, List.setIfInBounds_toArray, List.set_cons_succ, List.set_cons_zero]
      clear v7
      go_upto_region 6 with fail
      refine region_new16 4 3 2 8 32 _ (fun i => [Fact.eq (.pointer (some ⟨(w.heap.size + 1), 1, none⟩)), Fact.eq (.slice a4 qy.length c4), EL (num qy), NB W5 16].getD i Fact.no) (num qy) (by kernel_rfl) rfl rfl rfl (by kernel_rfl) (by kernel_rfl) rfl rfl ?_ ?_
      · intro i hi
        obtain rfl | rfl | rfl | rfl : i = 0 ∨ i = 1 ∨ i = 2 ∨ i = 3 := by omega
        · exact step_fld rfl 37 3 1 rfl (by kernel_rfl) _ _ rfl (fyP _) rfl
        · exact step_lds rfl 30 0 rfl (by kernel_rfl) _ _ rfl _ _ _ CV rfl
        · exact step_of rfl 31 1 rfl (by kernel_rfl) OV.out rfl rfl
        · exact step_new16 rfl rfl rfl
      intro qy6 q8 W6 v8 l8 n E8 T8
      replace CX := (n.cell (block_lt_of_cell CX)).trans CX
      replace CY := (n.cell (block_lt_of_cell CY)).trans CY
      replace CU := (n.cell (block_lt_of_cell CU)).trans CU
      replace CV := (n.cell (block_lt_of_cell CV)).trans CV
      replace OX := hide (of_up5 OX.out n)
      replace OY := hide (of_up5 OY.out n)
      replace OU := hide (of_up5 OU.out n)
      replace OV := hide (of_up5 OV.out n)
      replace E5 := E5.up n
      replace E6 := E6.up n
      replace E7 := E7.up n
      replace TR := there_up (by omega) TR n
      replace N := nxt N n
      clear n T8
      simp only [puts, v8, Act.put, List.setIfInBounds_toArray, List.set_cons_succ, List.set_cons_zero]
      clear v8
      go_upto_region 7 with fail
      refine region_new16 10 9 8 9 41 _ (fun i => [EL dE, EL (num px), EL (num qx), EL ((num px) * (num qx)), EL (num py), EL (num qy), EL ((num py) * (num qy)), EL (((num px) * (num qx)) * ((num py) * (num qy))), EL ((dE) * (((num px) * (num qx)) * ((num py) * (num qy)))), NB W6 16].getD i Fact.no) ((dE) * (((num px) * (num qx)) * ((num py) * (num qy)))) (by kernel_rfl) rfl rfl rfl (by kernel_rfl) (by kernel_rfl) rfl rfl ?_ ?_
      · intro i hi
        obtain rfl | rfl | rfl | rfl | rfl | rfl | rfl | rfl | rfl | rfl : i = 0 ∨ i = 1 ∨ i = 2 ∨ i = 3 ∨ i = 4 ∨ i = 5 ∨ i = 6 ∨ i = 7 ∨ i = 8 ∨ i = 9 := by omega
        · exact step_d rfl rfl rfl
        · exact step_el rfl 84 5 rfl Go.Proofs.YtliahigljoeeoaaGreatDoor.u50 i50 (by kernel_rfl) _ _ rfl _ E5 rfl
        · exact step_el rfl 84 7 rfl Go.Proofs.YtliahigljoeeoaaGreatDoor.u50 i50 (by kernel_rfl) _ _ rfl _ E7 rfl
        · exact step_mul rfl 34 35 1 2 _ _ rfl (by kernel_rfl) (by kernel_rfl) rfl rfl rfl
        · exact step_el rfl 84 6 rfl Go.Proofs.YtliahigljoeeoaaGreatDoor.u50 i50 (by kernel_rfl) _ _ rfl _ E6 rfl
        · exact step_el rfl 84 8 rfl Go.Proofs.YtliahigljoeeoaaGreatDoor.u50 i50 (by kernel_rfl) _ _ rfl _ E8 rfl
        · exact step_mul rfl 37 38 4 5 _ _ rfl (by kernel_rfl) (by kernel_rfl) rfl rfl rfl
        · exact step_mul rfl 36 39 3 6 _ _ rfl (by kernel_rfl) (by kernel_rfl) rfl rfl rfl
        · exact step_mul rfl 33 40 0 7 _ _ rfl (by kernel_rfl) (by kernel_rfl) rfl rfl rfl
        · exact step_new16 rfl rfl rfl
      intro qy7 q9 W7 v9 l9 n E9 T9
      replace CX := (n.cell (block_lt_of_cell CX)).trans CX
      replace CY := (n.cell (block_lt_of_cell CY)).trans CY
      replace CU := (n.cell (block_lt_of_cell CU)).trans CU
      replace CV := (n.cell (block_lt_of_cell CV)).trans CV
      replace OX := hide (of_up5 OX.out n)
      replace OY := hide (of_up5 OY.out n)
      replace OU := hide (of_up5 OU.out n)
      replace OV := hide (of_up5 OV.out n)
      replace E5 := E5.up n
      replace E6 := E6.up n
      replace E7 := E7.up n
      replace E8 := E8.up n
      replace TR := there_up (by omega) TR n
      replace N := nxt N n
      clear n T9
      simp only [puts, v9, Act.put, List.setIfInBounds_toArray, List.set_cons_succ, List.set_cons_zero]
      clear v9
      go_upto_region 8 with fail
      refine region_new16 13 12 11 10 53 _ (fun i => [EL (num px), EL (num qy), EL ((num px) * (num qy)), EL (num py), EL (num qx), EL ((num py) * (num qx)), EL (((num px) * (num qy)) + ((num py) * (num qx))), EL 1, EL ((dE) * (((num px) * (num qx)) * ((num py) * (num qy)))), EL ((1) + ((dE) * (((num px) * (num qx)) * ((num py) * (num qy))))), EL (iv ((1) + ((dE) * (((num px) * (num qx)) * ((num py) * (num qy)))))), EL ((((num px) * (num qy)) + ((num py) * (num qx))) * (iv ((1) + ((dE) * (((num px) * (num qx)) * ((num py) * (num qy))))))), NB W7 16].getD i Fact.no) ((((num px) * (num qy)) + ((num py) * (num qx))) * (iv ((1) + ((dE) * (((num px) * (num qx)) * ((num py) * (num qy))))))) (by kernel_rfl) rfl rfl rfl (by kernel_rfl) (by kernel_rfl) rfl rfl ?_ ?_
      · intro i hi
        obtain rfl | rfl | rfl | rfl | rfl | rfl | rfl | rfl | rfl | rfl | rfl | rfl | rfl : i = 0 ∨ i = 1 ∨ i = 2 ∨ i = 3 ∨ i = 4 ∨ i = 5 ∨ i = 6 ∨ i = 7 ∨ i = 8 ∨ i = 9 ∨ i = 10 ∨ i = 11 ∨ i = 12 := by omega
        · exact step_el rfl 84 5 rfl Go.Proofs.YtliahigljoeeoaaGreatDoor.u50 i50 (by kernel_rfl) _ _ rfl _ E5 rfl
        · exact step_el rfl 84 8 rfl Go.Proofs.YtliahigljoeeoaaGreatDoor.u50 i50 (by kernel_rfl) _ _ rfl _ E8 rfl
        · exact step_mul rfl 42 43 0 1 _ _ rfl (by kernel_rfl) (by kernel_rfl) rfl rfl rfl
        · exact step_el rfl 84 6 rfl Go.Proofs.YtliahigljoeeoaaGreatDoor.u50 i50 (by kernel_rfl) _ _ rfl _ E6 rfl
        · exact step_el rfl 84 7 rfl Go.Proofs.YtliahigljoeeoaaGreatDoor.u50 i50 (by kernel_rfl) _ _ rfl _ E7 rfl
        · exact step_mul rfl 45 46 3 4 _ _ rfl (by kernel_rfl) (by kernel_rfl) rfl rfl rfl
        · exact step_add rfl 44 47 2 5 _ _ rfl (by kernel_rfl) (by kernel_rfl) rfl rfl rfl
        · exact step_small rfl 1 (by omega) rfl rfl
        · exact step_el rfl 84 9 rfl Go.Proofs.YtliahigljoeeoaaGreatDoor.u50 i50 (by kernel_rfl) _ _ rfl _ E9 rfl
        · exact step_add rfl 49 50 7 8 _ _ rfl (by kernel_rfl) (by kernel_rfl) rfl rfl rfl
        · exact step_inv rfl 51 9 _ rfl (by kernel_rfl) rfl rfl
        · exact step_mul rfl 48 52 6 10 _ _ rfl (by kernel_rfl) (by kernel_rfl) rfl rfl rfl
        · exact step_new16 rfl rfl rfl
      intro qy8 q10 W8 v10 l10 n E10 T10
      replace CX := (n.cell (block_lt_of_cell CX)).trans CX
      replace CY := (n.cell (block_lt_of_cell CY)).trans CY
      replace CU := (n.cell (block_lt_of_cell CU)).trans CU
      replace CV := (n.cell (block_lt_of_cell CV)).trans CV
      replace OX := hide (of_up5 OX.out n)
      replace OY := hide (of_up5 OY.out n)
      replace OU := hide (of_up5 OU.out n)
      replace OV := hide (of_up5 OV.out n)
      replace E5 := E5.up n
      replace E6 := E6.up n
      replace E7 := E7.up n
      replace E8 := E8.up n
      replace E9 := E9.up n
      replace TR := there_up (by omega) TR n
      replace N := nxt N n
      clear n T10
      simp only [puts, v10, Act.put, List.setIfInBounds_toArray, List.set_cons_succ, List.set_cons_zero]
      clear v10
      go_upto_region 9 with fail
      refine region_new16 13 12 11 11 65 _ (fun i => [EL (num py), EL (num qy), EL ((num py) * (num qy)), EL (num px), EL (num qx), EL ((num px) * (num qx)), EL (((num py) * (num qy)) + ((num px) * (num qx))), EL 1, EL ((dE) * (((num px) * (num qx)) * ((num py) * (num qy)))), EL ((1) - ((dE) * (((num px) * (num qx)) * ((num py) * (num qy))))), EL (iv ((1) - ((dE) * (((num px) * (num qx)) * ((num py) * (num qy)))))), EL ((((num py) * (num qy)) + ((num px) * (num qx))) * (iv ((1) - ((dE) * (((num px) * (num qx)) * ((num py) * (num qy))))))), NB W8 16].getD i Fact.no) ((((num py) * (num qy)) + ((num px) * (num qx))) * (iv ((1) - ((dE) * (((num px) * (num qx)) * ((num py) * (num qy))))))) (by kernel_rfl) rfl rfl rfl (by kernel_rfl) (by kernel_rfl) rfl rfl ?_ ?_
      · intro i hi
        obtain rfl | rfl | rfl | rfl | rfl | rfl | rfl | rfl | rfl | rfl | rfl | rfl | rfl : i = 0 ∨ i = 1 ∨ i = 2 ∨ i = 3 ∨ i = 4 ∨ i = 5 ∨ i = 6 ∨ i = 7 ∨ i = 8 ∨ i = 9 ∨ i = 10 ∨ i = 11 ∨ i = 12 := by omega
        · exact step_el rfl 84 6 rfl Go.Proofs.YtliahigljoeeoaaGreatDoor.u50 i50 (by kernel_rfl) _ _ rfl _ E6 rfl
        · exact step_el rfl 84 8 rfl Go.Proofs.YtliahigljoeeoaaGreatDoor.u50 i50 (by kernel_rfl) _ _ rfl _ E8 rfl
        · exact step_mul rfl 54 55 0 1 _ _ rfl (by kernel_rfl) (by kernel_rfl) rfl rfl rfl
        · exact step_el rfl 84 5 rfl Go.Proofs.YtliahigljoeeoaaGreatDoor.u50 i50 (by kernel_rfl) _ _ rfl _ E5 rfl
        · exact step_el rfl 84 7 rfl Go.Proofs.YtliahigljoeeoaaGreatDoor.u50 i50 (by kernel_rfl) _ _ rfl _ E7 rfl
        · exact step_mul rfl 57 58 3 4 _ _ rfl (by kernel_rfl) (by kernel_rfl) rfl rfl rfl
        · exact step_add rfl 56 59 2 5 _ _ rfl (by kernel_rfl) (by kernel_rfl) rfl rfl rfl
        · exact step_small rfl 1 (by omega) rfl rfl
        · exact step_el rfl 84 9 rfl Go.Proofs.YtliahigljoeeoaaGreatDoor.u50 i50 (by kernel_rfl) _ _ rfl _ E9 rfl
        · exact step_sub rfl 61 62 7 8 _ _ rfl (by kernel_rfl) (by kernel_rfl) rfl rfl rfl
        · exact step_inv rfl 63 9 _ rfl (by kernel_rfl) rfl rfl
        · exact step_mul rfl 60 64 6 10 _ _ rfl (by kernel_rfl) (by kernel_rfl) rfl rfl rfl
        · exact step_new16 rfl rfl rfl
      intro qy9 q11 W9 v11 l11 n E11 T11
      replace CX := (n.cell (block_lt_of_cell CX)).trans CX
      replace CY := (n.cell (block_lt_of_cell CY)).trans CY
      replace CU := (n.cell (block_lt_of_cell CU)).trans CU
      replace CV := (n.cell (block_lt_of_cell CV)).trans CV
      replace OX := hide (of_up5 OX.out n)
      replace OY := hide (of_up5 OY.out n)
      replace OU := hide (of_up5 OU.out n)
      replace OV := hide (of_up5 OV.out n)
      replace E5 := E5.up n
      replace E6 := E6.up n
      replace E7 := E7.up n
      replace E8 := E8.up n
      replace E9 := E9.up n
      replace E10 := E10.up n
      replace TR := there_up (by omega) TR n
      replace N := nxt N n
      clear n T11
      simp only [puts, v11, Act.put, List.setIfInBounds_toArray, List.set_cons_succ, List.set_cons_zero]
      clear v11
      go_upto_region 10 with fail
      refine region_putP 5 4 4 70 _ (fun i => [EL ((((num px) * (num qy)) + ((num py) * (num qx))) * (iv ((1) + ((dE) * (((num px) * (num qx)) * ((num py) * (num qy))))))), RN W9 (fun xs => xs = fill (byt (((((num px) * (num qy)) + ((num py) * (num qx))) * (iv ((1) + ((dE) * (((num px) * (num qx)) * ((num py) * (num qy))))))) % PP)) 32), EL ((((num py) * (num qy)) + ((num px) * (num qx))) * (iv ((1) - ((dE) * (((num px) * (num qx)) * ((num py) * (num qy))))))), RN W9 (fun xs => xs = fill (byt (((((num py) * (num qy)) + ((num px) * (num qx))) * (iv ((1) - ((dE) * (((num px) * (num qx)) * ((num py) * (num qy))))))) % PP)) 32), PT W9 (fun xs ys => xs = fill (byt (((((num px) * (num qy)) + ((num py) * (num qx))) * (iv ((1) + ((dE) * (((num px) * (num qx)) * ((num py) * (num qy))))))) % PP)) 32 ∧ ys = fill (byt (((((num py) * (num qy)) + ((num px) * (num qx))) * (iv ((1) - ((dE) * (((num px) * (num qx)) * ((num py) * (num qy))))))) % PP)) 32)].getD i Fact.no) (fun xs ys => xs = fill (byt (((((num px) * (num qy)) + ((num py) * (num qx))) * (iv ((1) + ((dE) * (((num px) * (num qx)) * ((num py) * (num qy))))))) % PP)) 32 ∧ ys = fill (byt (((((num py) * (num qy)) + ((num px) * (num qx))) * (iv ((1) - ((dE) * (((num px) * (num qx)) * ((num py) * (num qy))))))) % PP)) 32) _ (by kernel_rfl) rfl rfl rfl (by kernel_rfl) rfl TR (by kernel_rfl) rfl ?_ ?_
      · intro i hi
        obtain rfl | rfl | rfl | rfl | rfl : i = 0 ∨ i = 1 ∨ i = 2 ∨ i = 3 ∨ i = 4 := by omega
        · exact step_el rfl 84 10 rfl Go.Proofs.YtliahigljoeeoaaGreatDoor.u50 i50 (by kernel_rfl) _ _ rfl _ E10 rfl
        · exact step_bytes rfl 66 0 _ rfl (by kernel_rfl) rfl rfl
        · exact step_el rfl 84 11 rfl Go.Proofs.YtliahigljoeeoaaGreatDoor.u50 i50 (by kernel_rfl) _ _ rfl _ E11 rfl
        · exact step_bytes rfl 68 2 _ rfl (by kernel_rfl) rfl rfl
        · exact step_bp rfl 67 69 1 3 _ _ rfl (by kernel_rfl) (by kernel_rfl) rfl rfl rfl
      rintro vt Wa Wb ps qs b1 b2 d1 d2 h1 h2 n bq rg o1 o2 l1 l2 ⟨rfl, rfl⟩ nb
      have NS := nb w w.heap.size (nxt N n) (by omega)
      simp only [puts, Act.put, List.setIfInBounds_toArray, List.set_cons_succ, List.set_cons_zero]
      have z1 := N.size
      clear N n bq nb TR CX CY CU CV OX OY OU OV E5 E6 E7 E8 E9 E10 E11
      rw [show fill (byt (((((num px) * (num qy)) + ((num py) * (num qx))) * (iv ((1) + ((dE) * (((num px) * (num qx)) * ((num py) * (num qy))))))) % PP)) 32 = paX px py qx qy from KX.out.symm] at o1 rg
      rw [show fill (byt (((((num py) * (num qy)) + ((num px) * (num qx))) * (iv ((1) - ((dE) * (((num px) * (num qx)) * ((num py) * (num qy))))))) % PP)) 32 = paY px py qx qy from KY.out.symm] at o2 rg
      clear KX KY
      go_wp2
      obtain ⟨fs, hfs⟩ := uP
      exact bodyPost_ret (v := .agg #[_, _]) (results_cell_mid Tryz.results154 _ _ (w.heap.size + 1 + 1) _ _ rfl rg hfs rfl iP) rfl ⟨⟨b1, b2, d1, d2, h1, h2, rfl, o1, o2, by omega, by omega⟩, NS⟩
end Go.Proofs.YtliahigljoeeoaaGreatDoor

/-
  The model's PointNegate.
-/
namespace Go.Proofs.YtliahigljoeeoaaGreatDoor
set_option maxRecDepth 100000
open Go Go.RowKit

section
variable {ops : Array Oper} {Q : Exit → Act → World → Prop} {md : Region.Mode} {F : Nat → Fact} {a0 : Act} {w0 : World} {i : Nat} {o : Oper} {ts : Array TypeId}
end
end Go.Proofs.YtliahigljoeeoaaGreatDoor

/-
  The model's l5Small.
-/
namespace Go.Proofs.YtliahigljoeeoaaGreatDoor
set_option maxRecDepth 100000
open Go Go.RowKit

/-- A root, as it is answered. -/
def RT (A : Int) : Fact := ⟨fun v _ => ∃ t, v = .tuple #[.bool (rootB A), ag16 t] ∧ L16 t ∧ s16 t 16 % PP = rootV A % PP, fun _ h => h⟩
theorem en_root : enters Tryz.prog 158 = true := by kernel_rfl
section
variable {ops : Array Oper} {Q : Exit → Act → World → Prop} {md : Region.Mode} {F : Nat → Fact} {a0 : Act} {w0 : World} {i : Nat} {o : Oper} {ts : Array TypeId}
theorem step_root (hi : ops[i]? = some o) (p j : Nat) (A : Int) (hop : o.op = .call { callee := .value (.func 158), args := #[.tmp p], argTypes := ts })
    (hj : waits md ops i j p = true) (hFj : F j = EL A) (hFi : F i = RT A) : StepOk Tryz.prog md ops Q F a0 w0 i := by
  refine step_call hi _ _ ts hop en_root fun a w _ _ hF => ?_
  have ea := hF j p hj
  rw [hFj] at ea
  obtain ⟨t, e1, L1, V1⟩ := ea
  show Calls Tryz.prog 158 #[a.tmps.getD p undef] w _
  rw [e1]
  refine (l2RootF_any w t L1 A V1).mono ?_
  rintro r w' ⟨u, rfl, L, V, hn⟩
  rw [hFi]
  exact ⟨_, rfl, hn, u, rfl, L, V⟩
theorem step_ext0 {P : Program} (hi : ops[i]? = some o) (p j : Nat) (A : Int) (hop : o.op = .extract (.tmp p) 0) (hj : waits md ops i j p = true) (hFj : F j = RT A) (hFi : F i = Fact.eq (.bool (rootB A))) : StepOk P md ops Q F a0 w0 i := by
  refine step_pure hi fun a w _ _ hf => ⟨.bool (rootB A), ?_, by rw [hFi]; exact rfl⟩
  have e := hf j p hj
  rw [hFj] at e
  obtain ⟨t, e, _⟩ := e
  have e' : a.eval (.tmp p) = .tuple #[.bool (rootB A), ag16 t] := e
  simp only [execOp, hop, e']
  rfl
theorem step_ext1 {P : Program} (hi : ops[i]? = some o) (p j : Nat) (A : Int) (hop : o.op = .extract (.tmp p) 1) (hj : waits md ops i j p = true) (hFj : F j = RT A) (hFi : F i = EL (rootV A)) : StepOk P md ops Q F a0 w0 i := by
  refine step_pure hi fun a w _ _ hf => ?_
  have e := hf j p hj
  rw [hFj] at e
  obtain ⟨t, e, L, V⟩ := e
  have e' : a.eval (.tmp p) = .tuple #[.bool (rootB A), ag16 t] := e
  refine ⟨ag16 t, ?_, by rw [hFi]; exact ⟨t, rfl, L, V⟩⟩
  simp only [execOp, hop, e']
  rfl
end
section
variable {ops : Array Oper} {Q : Exit → Act → World → Prop} {a0 : Act} {w : World} {id : Nat} {draw : Bool}
theorem region_new16F (k jA jV pA pV : Nat) (o : Oper) (F : Nat → Fact) (A : Int) (hT : textOk .any ops a0.tmps.size k = true) (hk : ops[k]? = some o) (hd : o.dst = none) (hop : o.op = .store 84 (.tmp pA) (.tmp pV))
    (wA : writes ops jA pA = true) (wV : writes ops jV pV = true) (FA : F jA = NB w 16) (FV : F jV = EL A) (steps : ∀ i, i < k → StepOk Tryz.prog .any ops Q F a0 w i)
    (fin : ∀ (vs : Nat → Value) (q : Nat) (W : World), vs pA = .pointer (some ⟨q, 0, none⟩) → w.heap.size ≤ q → Below w.heap.size w W → Elt W q 0 A → W.there q 0 16 → (∀ i d, writes ops i d = true → ∃ Wp, (F i).p (vs d) Wp) → Q .normal (puts vs a0 ops.toList) W) :
    (Code.region id ops draw).wp Tryz.prog Q a0 w := by
  refine region_store k o F (by kernel_rfl) hT hk hd steps fun a W hb hw hF => ?_
  have h1 := hF jA pA wA
  have h2 := hF jV pV wV
  rw [FA] at h1
  rw [FV] at h2
  obtain ⟨_, q, eq, th, hq⟩ := h1
  obtain ⟨t, ev, L, V⟩ := h2
  refine wp_store_mid 84 (.tmp pA) (.tmp pV) hop q 0 (a16 t) eq ev (by rw [a16_size]; exact th) (by rw [a16_size]; exact i50) (a16_one t) ?_
  obtain ⟨vs, hvs⟩ : ∃ vs : Nat → Value, ∀ d, a.tmps.getD d undef = vs d := ⟨_, fun _ => rfl⟩
  rw [hd]
  show Q .normal a _
  rw [puts_of hT rfl hb vs hvs]
  exact fin vs q _ ((hvs pA).symm.trans eq) hq (below_setCells hq _ _ _ hw) (set_elt th L V) (World.there_setCells th _ _ _) (fun i d h => ⟨W, by rw [← hvs]; exact hF i d h⟩)
end
end Go.Proofs.YtliahigljoeeoaaGreatDoor

/-
  The model's l5Small.
-/
namespace Go.Proofs.YtliahigljoeeoaaGreatDoor
set_option maxRecDepth 100000
open Go Go.RowKit

theorem en_int : enters Tryz.prog 155 = true := by kernel_rfl
theorem en_little : enters Tryz.prog 127 = true := by kernel_rfl
theorem en_times : enters Tryz.prog 67 = true := by kernel_rfl
theorem en_plain : enters Tryz.prog 66 = true := by kernel_rfl
theorem en_zero : enters Tryz.prog 68 = true := by kernel_rfl
/-- Three elements, whatever they are. -/
def E3any : Fact := ⟨fun v _ => ∃ x y z, v = ag48 x y z ∧ L16 x ∧ L16 y ∧ L16 z, fun _ h => h⟩
/-- Two lists of thirty-two bytes. -/
def PtOk (xs ys : List Int) : Prop := (Byt xs ∧ xs.length = 32) ∧ (Byt ys ∧ ys.length = 32)
theorem bytes_5 (v : Int) (n : Nat) : Byt (fill (byt v) n) := fun i => by
  by_cases hi : i < n
  · rw [fill_get _ _ _ hi]; unfold byt; omega
  · rw [List.getD_eq_getElem?_getD, List.getElem?_eq_none (by rw [fill_len]; omega)]; simp
theorem dig_bytes_5 {xs : List Int} (h : Byt xs) (n : Nat) : Byt (fill (dig xs) n) := fun i => by
  by_cases hi : i < n
  · rw [fill_get _ _ _ hi]
    have := dig_byt h i
    omega
  · rw [List.getD_eq_getElem?_getD, List.getElem?_eq_none (by rw [fill_len]; omega)]; simp
section
variable {ops : Array Oper} {Q : Exit → Act → World → Prop} {md : Region.Mode} {F : Nat → Fact} {a0 : Act} {w0 : World} {i : Nat} {o : Oper} {ts : Array TypeId}
theorem step_mv0 {P : Program} (hi : ops[i]? = some o) (p : Nat) (hop : (match o.op with | .move (.tmp q) => q == p | .assign (.tmp q) => q == p | _ => false) = true) (hp : apart ops p = true) {v : Value} (h0 : a0.tmps.getD p undef = v) (hF : F i = Fact.eq v) : StepOk P md ops Q F a0 w0 i := by
  refine step_pure hi fun a w hb _ _ => ⟨v, ?_, by rw [hF]; exact rfl⟩
  have e := (based_at hb p hp).trans h0
  cases ho : o.op with
  | move x =>
    cases x with
    | tmp q =>
      rw [ho] at hop
      obtain rfl : q = p := by simpa using hop
      simp [execOp, ho, e]
    | _ => rw [ho] at hop; simp at hop
  | assign x =>
    cases x with
    | tmp q =>
      rw [ho] at hop
      obtain rfl : q = p := by simpa using hop
      simp [execOp, ho, e]
    | _ => rw [ho] at hop; simp at hop
  | _ => rw [ho] at hop; simp at hop
theorem step_int (hi : ops[i]? = some o) (p j : Nat) (v : Int) (hv : 0 ≤ v ∧ v ≤ 255) (hop : o.op = .call { callee := .value (.func 155), args := #[.tmp p], argTypes := ts })
    (hj : waits md ops i j p = true) (hFj : F j = Fact.eq (.int .i64 v)) (hFi : F i = RN w0 (fun xs => xs.length ≤ 1 ∧ Byt xs)) : StepOk Tryz.prog md ops Q F a0 w0 i := by
  refine step_call hi _ _ ts hop en_int fun a w _ hw hF => ?_
  have ea := hF j p hj
  rw [hFj] at ea
  have e1 : a.tmps.getD p undef = .int .i64 v := ea
  show Calls Tryz.prog 155 #[a.tmps.getD p undef] w _
  rw [e1]
  refine (l1Int_any w v hv.1 hv.2).mono ?_
  rintro r w' ⟨ys, hl, hb, ⟨b, c, g, rfl, ow, k1, k2, hg⟩, hn⟩
  rw [hFi]
  exact ⟨_, rfl, hn, ys, b, c, g, rfl, ow, Nat.le_trans hw.size hg, ⟨hl, hb⟩, k1, k2⟩
theorem step_lit (hi : ops[i]? = some o) (p j : Nat) (hop : o.op = .call { callee := .value (.func 127), args := #[.tmp p, .const (.int .i64 32)], argTypes := ts })
    (hj : waits md ops i j p = true) (hFj : F j = RN w0 (fun xs => xs.length ≤ 1 ∧ Byt xs)) (hFi : F i = RN w0 (fun xs => xs.length = 32 ∧ Byt xs)) : StepOk Tryz.prog md ops Q F a0 w0 i := by
  refine step_call hi _ _ ts hop en_little fun a w _ hw hF => ?_
  have ea := hF j p hj
  rw [hFj] at ea
  obtain ⟨xs, b, c, g, e1, ow, hg, ⟨hl, hb⟩, k1, k2⟩ := ea
  show Calls Tryz.prog 127 #[a.tmps.getD p undef, .int .i64 32] w _
  rw [e1]
  refine (l1Little_any w g b c xs 32 ow.rd hb (by omega) (by omega)).mono ?_
  rintro r w' ⟨rfl, B, hn⟩
  rw [hFi]
  refine ⟨_, rfl, hn, fill (dig xs) 32, _, 32, w.heap.size, by rw [fill_len], B.own0, hw.size, ⟨fill_len _ _, ?_⟩, by simp, by rw [fill_len]; omega⟩
  exact dig_bytes_5 hb 32
theorem step_times (hi : ops[i]? = some o) (p q j k : Nat) {f g : List Int} (hop : o.op = .call { callee := .value (.func 67), args := #[.tmp p, .tmp q], argTypes := ts })
    (hj : waits md ops i j p = true) (hk : waits md ops i k q = true) (hFj : F j = RN w0 (fun xs => xs.length = 32 ∧ Byt xs)) (hFk : F k = PT w0 (fun xs ys => xs = f ∧ ys = g)) (hFi : F i = E3any) (hf : PtOk f g := by exact ⟨⟨bytes_5 _ _, fill_len _ _⟩, bytes_5 _ _, fill_len _ _⟩) : StepOk Tryz.prog md ops Q F a0 w0 i := by
  refine step_call hi _ _ ts hop en_times fun a w _ _ hF => ?_
  have ea := hF j p hj
  have eb := hF k q hk
  rw [hFj] at ea
  rw [hFk] at eb
  obtain ⟨ks, b, c, h, e1, ow, _, ⟨hl, hb⟩, _, _⟩ := ea
  obtain ⟨xs, ys, b1, b2, c1, c2, h1, h2, e2, o1, o2, _, _, rfl, rfl⟩ := eb
  show Calls Tryz.prog 67 #[a.tmps.getD p undef, a.tmps.getD q undef] w _
  rw [e1, e2]
  refine (l5Times_any w h h1 h2 b b1 b2 c c1 c2 ks xs ys ow.rd hb (by omega) o1.rd o2.rd hf.1.1 hf.2.1 hf.1.2 hf.2.2).mono ?_
  rintro r w' ⟨top, P, x, y, z, _, _, rfl, hx, hy, hz, hn⟩
  rw [hFi]
  exact ⟨_, rfl, hn, x, y, z, rfl, hx.1, hy.1, hz.1⟩
theorem step_plain (hi : ops[i]? = some o) (p j : Nat) (hop : o.op = .call { callee := .value (.func 66), args := #[.tmp p], argTypes := ts })
    (hj : waits md ops i j p = true) (hFj : F j = E3any) (hFi : F i = PT w0 PtOk) : StepOk Tryz.prog md ops Q F a0 w0 i := by
  refine step_call hi _ _ ts hop en_plain fun a w _ hw hF => ?_
  have ea := hF j p hj
  rw [hFj] at ea
  obtain ⟨x, y, z, e1, hx, hy, hz⟩ := ea
  show Calls Tryz.prog 66 #[a.tmps.getD p undef] w _
  rw [e1]
  refine (l5Plain_any w x y z _ _ _ ⟨hx, rfl⟩ ⟨hy, rfl⟩ ⟨hz, rfl⟩).mono ?_
  rintro r w' ⟨⟨b, b', c, c', g, g', rfl, o1, o2, l1, l2⟩, hn⟩
  rw [hFi]
  exact ⟨_, rfl, hn, _, _, b, b', c, c', g, g', rfl, o1, o2, Nat.le_trans hw.size l1, Nat.le_trans hw.size l2, ⟨bytes_5 _ _, fill_len _ _⟩, bytes_5 _ _, fill_len _ _⟩
theorem step_zero (hi : ops[i]? = some o) (hop : o.op = .call { callee := .value (.func 68), args := #[], argTypes := ts }) (hFi : F i = PT w0 PtOk) : StepOk Tryz.prog md ops Q F a0 w0 i := by
  refine step_call hi _ _ ts hop en_zero fun a w _ hw _ => ?_
  refine (pointZero_any w).mono ?_
  rintro r w' ⟨⟨b, b', c, c', g, g', rfl, o1, o2, l1, l2⟩, hn⟩
  rw [hFi]
  exact ⟨_, rfl, hn, _, _, b, b', c, c', g, g', rfl, o1, o2, Nat.le_trans hw.size l1, Nat.le_trans hw.size l2, ⟨bytes_5 _ _, fill_len _ _⟩, bytes_5 _ _, fill_len _ _⟩
end

set_option maxHeartbeats 4000000 in
theorem l5Small_any (w : World) (k : Int) (k0 : 0 ≤ k) (k1 : k ≤ 255) :
    Calls Tryz.prog 153 #[.int .i64 k] w fun r w' => ∃ xs ys, NewPt w.heap.size w' r xs ys ∧ (Byt xs ∧ xs.length = 32) ∧ (Byt ys ∧ ys.length = 32) ∧ Below w.heap.size w w' := by
  go_enter Tryz.func153, Tryz.ntmps153
  go_upto_region 1 with fail
  change Code.wp _ _ _ _ (w.alloc pObj)
  have TR := there_p w
  have N : Below w.heap.size w (w.alloc pObj) := (Below.refl _ _).alloc (Nat.le_refl _) _
  generalize w.alloc pObj = wr at *
  have zr := there_lt (by omega) TR
  refine region_new16 2 1 0 3 10 _ (fun i => [EL dE, NB wr 16].getD i Fact.no) (dE) (by kernel_rfl) rfl rfl rfl (by kernel_rfl) (by kernel_rfl) rfl rfl ?_ ?_
  · intro i hi
    obtain rfl | rfl : i = 0 ∨ i = 1 := by omega
    · exact step_d rfl rfl rfl
    · exact step_new16 rfl rfl rfl
  intro vs1 q3 W1 v3 h3 n1 E3' T3
  have mn1 := n1.size
  replace TR := there_up (by omega) TR n1
  replace N := nxt N n1
  clear n1 T3
  simp only [puts, v3, Act.put, List.setIfInBounds_toArray, List.set_cons_succ, List.set_cons_zero]
  clear v3
  go_upto_region 2 with fail
  refine region_new16 9 7 6 5 17 _ (fun i => [EL 0, EL 1, EL ((0) - (1)), RT ((0) - (1)), RT ((0) - (1)), Fact.eq (.bool (rootB ((0) - (1)))), EL (rootV ((0) - (1))), NB W1 16, Fact.eq (.bool (rootB ((0) - (1))))].getD i Fact.no) (rootV ((0) - (1))) (by kernel_rfl) rfl rfl rfl (by kernel_rfl) (by kernel_rfl) rfl rfl ?_ ?_
  · intro i hi
    obtain rfl | rfl | rfl | rfl | rfl | rfl | rfl | rfl | rfl : i = 0 ∨ i = 1 ∨ i = 2 ∨ i = 3 ∨ i = 4 ∨ i = 5 ∨ i = 6 ∨ i = 7 ∨ i = 8 := by omega
    · exact step_small rfl 0 (by omega) rfl rfl
    · exact step_small rfl 1 (by omega) rfl rfl
    · exact step_sub rfl 12 13 0 1 _ _ rfl (by kernel_rfl) (by kernel_rfl) rfl rfl rfl
    · exact step_root rfl 14 2 _ rfl (by kernel_rfl) rfl rfl
    · exact step_move rfl 15 3 (by exact Or.inl rfl) (by kernel_rfl) rfl
    · exact step_ext0 rfl 11 4 _ rfl (by kernel_rfl) rfl rfl
    · exact step_ext1 rfl 11 4 _ rfl (by kernel_rfl) rfl rfl
    · exact step_new16 rfl rfl rfl
    · exact step_move rfl 16 5 (by exact Or.inr rfl) (by kernel_rfl) rfl
  intro vs2 q5 W2 v5 h5 n2 E5 T5
  have y5 := E5.lt
  have mn2 := n2.size
  replace E3' := E3'.up n2
  replace TR := there_up (by omega) TR n2
  replace N := nxt N n2
  clear n2 T5
  simp only [puts, v5, Act.put, List.setIfInBounds_toArray, List.set_cons_succ, List.set_cons_zero]
  clear v5
  go_upto_region 3 with fail
  refine region_new16 9 7 6 7 24 _ (fun i => [EL 1, EL (dE), EL ((1) + (dE)), RT ((1) + (dE)), RT ((1) + (dE)), Fact.eq (.bool (rootB ((1) + (dE)))), EL (rootV ((1) + (dE))), NB W2 16, Fact.eq (.bool (rootB ((1) + (dE))))].getD i Fact.no) (rootV ((1) + (dE))) (by kernel_rfl) rfl rfl rfl (by kernel_rfl) (by kernel_rfl) rfl rfl ?_ ?_
  · intro i hi
    obtain rfl | rfl | rfl | rfl | rfl | rfl | rfl | rfl | rfl : i = 0 ∨ i = 1 ∨ i = 2 ∨ i = 3 ∨ i = 4 ∨ i = 5 ∨ i = 6 ∨ i = 7 ∨ i = 8 := by omega
    · exact step_small rfl 1 (by omega) rfl rfl
    · exact step_el rfl 84 3 rfl Go.Proofs.YtliahigljoeeoaaGreatDoor.u50 i50 (by kernel_rfl) _ _ rfl _ E3' rfl
    · exact step_add rfl 19 20 0 1 _ _ rfl (by kernel_rfl) (by kernel_rfl) rfl rfl rfl
    · exact step_root rfl 21 2 _ rfl (by kernel_rfl) rfl rfl
    · exact step_move rfl 22 3 (by exact Or.inl rfl) (by kernel_rfl) rfl
    · exact step_ext0 rfl 18 4 _ rfl (by kernel_rfl) rfl rfl
    · exact step_ext1 rfl 18 4 _ rfl (by kernel_rfl) rfl rfl
    · exact step_new16 rfl rfl rfl
    · exact step_move rfl 23 5 (by exact Or.inr rfl) (by kernel_rfl) rfl
  intro vs3 q7 W3' v7 h7 n3 E7 T7
  have mn3 := n3.size
  replace E3' := E3'.up n3
  replace E5 := E5.up n3
  replace TR := there_up (by omega) TR n3
  replace N := nxt N n3
  clear n3 T7
  simp only [puts, v7, Act.put, List.setIfInBounds_toArray, List.set_cons_succ, List.set_cons_zero]
  clear v7
  go_upto_region 4 with fail
  refine region_new16F 12 10 9 9 34 _ (fun i => [EL 1, EL (rootV ((1) + (dE))), EL ((1) + (rootV ((1) + (dE)))), EL (dE), EL (iv (dE)), EL (((1) + (rootV ((1) + (dE)))) * (iv (dE))), RT (((1) + (rootV ((1) + (dE)))) * (iv (dE))), RT (((1) + (rootV ((1) + (dE)))) * (iv (dE))), Fact.eq (.bool (rootB (((1) + (rootV ((1) + (dE)))) * (iv (dE))))), EL (rootV (((1) + (rootV ((1) + (dE)))) * (iv (dE)))), NB W3' 16, Fact.eq (.bool (rootB (((1) + (rootV ((1) + (dE)))) * (iv (dE)))))].getD i Fact.no) (rootV (((1) + (rootV ((1) + (dE)))) * (iv (dE)))) (by kernel_rfl) rfl rfl rfl (by kernel_rfl) (by kernel_rfl) rfl rfl ?_ ?_
  · intro i hi
    obtain rfl | rfl | rfl | rfl | rfl | rfl | rfl | rfl | rfl | rfl | rfl | rfl : i = 0 ∨ i = 1 ∨ i = 2 ∨ i = 3 ∨ i = 4 ∨ i = 5 ∨ i = 6 ∨ i = 7 ∨ i = 8 ∨ i = 9 ∨ i = 10 ∨ i = 11 := by omega
    · exact step_small rfl 1 (by omega) rfl rfl
    · exact step_el rfl 84 7 rfl Go.Proofs.YtliahigljoeeoaaGreatDoor.u50 i50 (by kernel_rfl) _ _ rfl _ E7 rfl
    · exact step_add rfl 26 27 0 1 _ _ rfl (by kernel_rfl) (by kernel_rfl) rfl rfl rfl
    · exact step_el rfl 84 3 rfl Go.Proofs.YtliahigljoeeoaaGreatDoor.u50 i50 (by kernel_rfl) _ _ rfl _ E3' rfl
    · exact step_inv rfl 29 3 _ rfl (by kernel_rfl) rfl rfl
    · exact step_mul rfl 28 30 2 4 _ _ rfl (by kernel_rfl) (by kernel_rfl) rfl rfl rfl
    · exact step_root rfl 31 5 _ rfl (by kernel_rfl) rfl rfl
    · exact step_move rfl 32 6 (by exact Or.inl rfl) (by kernel_rfl) rfl
    · exact step_ext0 rfl 25 7 _ rfl (by kernel_rfl) rfl rfl
    · exact step_ext1 rfl 25 7 _ rfl (by kernel_rfl) rfl rfl
    · exact step_new16 rfl rfl rfl
    · exact step_move rfl 33 8 (by exact Or.inr rfl) (by kernel_rfl) rfl
  intro vs4 q9 W4 v9 h9 n4 E9 T9 hF
  obtain ⟨_, v8⟩ := hF 11 8 (by kernel_rfl)
  clear hF
  have mn4 := n4.size
  replace E3' := E3'.up n4
  replace E5 := E5.up n4
  replace E7 := E7.up n4
  replace TR := there_up (by omega) TR n4
  replace N := nxt N n4
  have y9 := E9.lt
  have y3 := E3'.lt
  have r5 : q5 ≠ q9 := by omega
  clear n4
  change vs4 8 = .bool (rootB _) at v8
  simp only [puts, v9, v8, Act.put, List.setIfInBounds_toArray, List.set_cons_succ, List.set_cons_zero]
  clear v9 v8
  cases rootB (((1) + (rootV ((1) + (dE)))) * (iv (dE))) with
  | true =>
    go_upto_region 9 with fail
    refine region_putP 12 11 2 61 _ (fun i => [Fact.eq (.int .i64 k), RN W4 (fun xs => xs.length ≤ 1 ∧ Byt xs), RN W4 (fun xs => xs.length = 32 ∧ Byt xs), EL (rootV (((1) + (rootV ((1) + (dE)))) * (iv (dE)))), RN W4 (fun xs => xs = fill (byt ((rootV (((1) + (rootV ((1) + (dE)))) * (iv (dE)))) % PP)) 32), EL (rootV (((1) + (rootV ((1) + (dE)))) * (iv (dE)))), EL (rootV ((0) - (1))), EL ((rootV (((1) + (rootV ((1) + (dE)))) * (iv (dE)))) * (rootV ((0) - (1)))), RN W4 (fun xs => xs = fill (byt (((rootV (((1) + (rootV ((1) + (dE)))) * (iv (dE)))) * (rootV ((0) - (1)))) % PP)) 32), PT W4 (fun xs ys => xs = fill (byt ((rootV (((1) + (rootV ((1) + (dE)))) * (iv (dE)))) % PP)) 32 ∧ ys = fill (byt (((rootV (((1) + (rootV ((1) + (dE)))) * (iv (dE)))) * (rootV ((0) - (1)))) % PP)) 32), E3any, PT W4 PtOk].getD i Fact.no) PtOk _ (by kernel_rfl) rfl rfl rfl (by kernel_rfl) rfl TR (by kernel_rfl) rfl ?_ ?_
    · intro i hi
      obtain rfl | rfl | rfl | rfl | rfl | rfl | rfl | rfl | rfl | rfl | rfl | rfl : i = 0 ∨ i = 1 ∨ i = 2 ∨ i = 3 ∨ i = 4 ∨ i = 5 ∨ i = 6 ∨ i = 7 ∨ i = 8 ∨ i = 9 ∨ i = 10 ∨ i = 11 := by omega
      · exact step_mv0 rfl 0 (by kernel_rfl) (by kernel_rfl) rfl rfl
      · exact step_int rfl 50 0 k ⟨k0, k1⟩ rfl (by kernel_rfl) rfl rfl
      · exact step_lit rfl 51 1 rfl (by kernel_rfl) rfl rfl
      · exact step_el rfl 84 9 rfl Go.Proofs.YtliahigljoeeoaaGreatDoor.u50 i50 (by kernel_rfl) _ _ rfl _ E9 rfl
      · exact step_bytes rfl 53 3 _ rfl (by kernel_rfl) rfl rfl
      · exact step_el rfl 84 9 rfl Go.Proofs.YtliahigljoeeoaaGreatDoor.u50 i50 (by kernel_rfl) _ _ rfl _ E9 rfl
      · exact step_el rfl 84 5 rfl Go.Proofs.YtliahigljoeeoaaGreatDoor.u50 i50 (by kernel_rfl) _ _ rfl _ E5 rfl
      · exact step_mul rfl 55 56 5 6 _ _ rfl (by kernel_rfl) (by kernel_rfl) rfl rfl rfl
      · exact step_bytes rfl 57 7 _ rfl (by kernel_rfl) rfl rfl
      · exact step_bp rfl 54 58 4 8 _ _ rfl (by kernel_rfl) (by kernel_rfl) rfl rfl rfl
      · exact step_times rfl 52 59 2 9 rfl (by kernel_rfl) (by kernel_rfl) rfl rfl rfl
      · exact step_plain rfl 60 10 rfl (by kernel_rfl) rfl rfl
    intro vs9 W W' xs ys a a' c c' g g' n bq rg o1 o2 l1 l2 hp nb
    have NS := nb w w.heap.size (nxt N n) (by omega)
    simp only [puts, Act.put, List.setIfInBounds_toArray, List.set_cons_succ, List.set_cons_zero]
    have z1 := N.size
    clear N n bq nb TR
    go_wp2
    obtain ⟨fs, hfs⟩ := uP
    exact bodyPost_ret (v := .agg #[_, _]) (results_cell_mid Tryz.results153 _ _ w.heap.size _ _ rfl rg hfs rfl iP) rfl ⟨xs, ys, ⟨a, a', c, c', g, g', rfl, o1, o2, by omega, by omega⟩, hp.1, hp.2, NS⟩
  | false =>
    go_upto_region 6 with fail
    refine region_put16F 11 9 9 46 _ (fun i => [EL 1, EL (rootV ((1) + (dE))), EL ((1) - (rootV ((1) + (dE)))), EL (dE), EL (iv (dE)), EL (((1) - (rootV ((1) + (dE)))) * (iv (dE))), RT (((1) - (rootV ((1) + (dE)))) * (iv (dE))), RT (((1) - (rootV ((1) + (dE)))) * (iv (dE))), Fact.eq (.bool (rootB (((1) - (rootV ((1) + (dE)))) * (iv (dE))))), EL (rootV (((1) - (rootV ((1) + (dE)))) * (iv (dE)))), Fact.eq (.bool (rootB (((1) - (rootV ((1) + (dE)))) * (iv (dE)))))].getD i Fact.no) (rootV (((1) - (rootV ((1) + (dE)))) * (iv (dE)))) _ (by kernel_rfl) rfl rfl rfl (by kernel_rfl) rfl T9 (by kernel_rfl) rfl ?_ ?_
    · intro i hi
      obtain rfl | rfl | rfl | rfl | rfl | rfl | rfl | rfl | rfl | rfl | rfl : i = 0 ∨ i = 1 ∨ i = 2 ∨ i = 3 ∨ i = 4 ∨ i = 5 ∨ i = 6 ∨ i = 7 ∨ i = 8 ∨ i = 9 ∨ i = 10 := by omega
      · exact step_small rfl 1 (by omega) rfl rfl
      · exact step_el rfl 84 7 rfl Go.Proofs.YtliahigljoeeoaaGreatDoor.u50 i50 (by kernel_rfl) _ _ rfl _ E7 rfl
      · exact step_sub rfl 38 39 0 1 _ _ rfl (by kernel_rfl) (by kernel_rfl) rfl rfl rfl
      · exact step_el rfl 84 3 rfl Go.Proofs.YtliahigljoeeoaaGreatDoor.u50 i50 (by kernel_rfl) _ _ rfl _ E3' rfl
      · exact step_inv rfl 41 3 _ rfl (by kernel_rfl) rfl rfl
      · exact step_mul rfl 40 42 2 4 _ _ rfl (by kernel_rfl) (by kernel_rfl) rfl rfl rfl
      · exact step_root rfl 43 5 _ rfl (by kernel_rfl) rfl rfl
      · exact step_move rfl 44 6 (by exact Or.inl rfl) (by kernel_rfl) rfl
      · exact step_ext0 rfl 37 7 _ rfl (by kernel_rfl) rfl rfl
      · exact step_ext1 rfl 37 7 _ rfl (by kernel_rfl) rfl rfl
      · exact step_move rfl 45 8 (by exact Or.inr rfl) (by kernel_rfl) rfl
    intro vs6 Wa W6 na bq E9n T9n nb hF
    obtain ⟨_, v8⟩ := hF 10 8 (by kernel_rfl)
    clear hF
    replace TR := there_but (by omega) TR bq (by omega)
    replace E5 := E5.but bq r5
    replace N := nb w w.heap.size (nxt N na) (by omega)
    clear bq nb na E9 E7 E3'
    have E9 := E9n
    change vs6 8 = .bool (rootB _) at v8
    simp only [puts, v8, Act.put, List.setIfInBounds_toArray, List.set_cons_succ, List.set_cons_zero]
    clear v8
    cases rootB (((1) - (rootV ((1) + (dE)))) * (iv (dE))) with
    | true =>
      go_upto_region 9 with fail
      refine region_putP 12 11 2 61 _ (fun i => [Fact.eq (.int .i64 k), RN W6 (fun xs => xs.length ≤ 1 ∧ Byt xs), RN W6 (fun xs => xs.length = 32 ∧ Byt xs), EL (rootV (((1) - (rootV ((1) + (dE)))) * (iv (dE)))), RN W6 (fun xs => xs = fill (byt ((rootV (((1) - (rootV ((1) + (dE)))) * (iv (dE)))) % PP)) 32), EL (rootV (((1) - (rootV ((1) + (dE)))) * (iv (dE)))), EL (rootV ((0) - (1))), EL ((rootV (((1) - (rootV ((1) + (dE)))) * (iv (dE)))) * (rootV ((0) - (1)))), RN W6 (fun xs => xs = fill (byt (((rootV (((1) - (rootV ((1) + (dE)))) * (iv (dE)))) * (rootV ((0) - (1)))) % PP)) 32), PT W6 (fun xs ys => xs = fill (byt ((rootV (((1) - (rootV ((1) + (dE)))) * (iv (dE)))) % PP)) 32 ∧ ys = fill (byt (((rootV (((1) - (rootV ((1) + (dE)))) * (iv (dE)))) * (rootV ((0) - (1)))) % PP)) 32), E3any, PT W6 PtOk].getD i Fact.no) PtOk _ (by kernel_rfl) rfl rfl rfl (by kernel_rfl) rfl TR (by kernel_rfl) rfl ?_ ?_
      · intro i hi
        obtain rfl | rfl | rfl | rfl | rfl | rfl | rfl | rfl | rfl | rfl | rfl | rfl : i = 0 ∨ i = 1 ∨ i = 2 ∨ i = 3 ∨ i = 4 ∨ i = 5 ∨ i = 6 ∨ i = 7 ∨ i = 8 ∨ i = 9 ∨ i = 10 ∨ i = 11 := by omega
        · exact step_mv0 rfl 0 (by kernel_rfl) (by kernel_rfl) rfl rfl
        · exact step_int rfl 50 0 k ⟨k0, k1⟩ rfl (by kernel_rfl) rfl rfl
        · exact step_lit rfl 51 1 rfl (by kernel_rfl) rfl rfl
        · exact step_el rfl 84 9 rfl Go.Proofs.YtliahigljoeeoaaGreatDoor.u50 i50 (by kernel_rfl) _ _ rfl _ E9 rfl
        · exact step_bytes rfl 53 3 _ rfl (by kernel_rfl) rfl rfl
        · exact step_el rfl 84 9 rfl Go.Proofs.YtliahigljoeeoaaGreatDoor.u50 i50 (by kernel_rfl) _ _ rfl _ E9 rfl
        · exact step_el rfl 84 5 rfl Go.Proofs.YtliahigljoeeoaaGreatDoor.u50 i50 (by kernel_rfl) _ _ rfl _ E5 rfl
        · exact step_mul rfl 55 56 5 6 _ _ rfl (by kernel_rfl) (by kernel_rfl) rfl rfl rfl
        · exact step_bytes rfl 57 7 _ rfl (by kernel_rfl) rfl rfl
        · exact step_bp rfl 54 58 4 8 _ _ rfl (by kernel_rfl) (by kernel_rfl) rfl rfl rfl
        · exact step_times rfl 52 59 2 9 rfl (by kernel_rfl) (by kernel_rfl) rfl rfl rfl
        · exact step_plain rfl 60 10 rfl (by kernel_rfl) rfl rfl
      intro vs9 W W' xs ys a a' c c' g g' n bq rg o1 o2 l1 l2 hp nb
      have NS := nb w w.heap.size (nxt N n) (by omega)
      simp only [puts, Act.put, List.setIfInBounds_toArray, List.set_cons_succ, List.set_cons_zero]
      have z1 := N.size
      clear N n bq nb TR
      go_wp2
      obtain ⟨fs, hfs⟩ := uP
      exact bodyPost_ret (v := .agg #[_, _]) (results_cell_mid Tryz.results153 _ _ w.heap.size _ _ rfl rg hfs rfl iP) rfl ⟨xs, ys, ⟨a, a', c, c', g, g', rfl, o1, o2, by omega, by omega⟩, hp.1, hp.2, NS⟩
    | false =>
      go_upto_region 8 with fail
      refine region_putP 1 0 2 49 _ (fun i => [PT W6 PtOk].getD i Fact.no) PtOk _ (by kernel_rfl) rfl rfl rfl (by kernel_rfl) rfl TR (by kernel_rfl) rfl ?_ ?_
      · intro i hi
        obtain rfl : i = 0 := by omega
        exact step_zero rfl rfl rfl
      intro vs9 W W' xs ys a a' c c' g g' n bq rg o1 o2 l1 l2 hp nb
      have NS := nb w w.heap.size (nxt N n) (by omega)
      simp only [puts, Act.put, List.setIfInBounds_toArray, List.set_cons_succ, List.set_cons_zero]
      have z1 := N.size
      clear N n bq nb TR
      go_wp2
      obtain ⟨fs, hfs⟩ := uP
      exact bodyPost_ret (v := .agg #[_, _]) (results_cell_mid Tryz.results153 _ _ w.heap.size _ _ rfl rg hfs rfl iP) rfl ⟨xs, ys, ⟨a, a', c, c', g, g', rfl, o1, o2, by omega, by omega⟩, hp.1, hp.2, NS⟩
end Go.Proofs.YtliahigljoeeoaaGreatDoor

/-
  What is drawn from a source, told by the source's bytes.
-/
namespace Go.Proofs.YtliahigljoeeoaaGreatDoor
set_option maxRecDepth 100000
open Go.RowKit

/-- The next number that is drawn. -/
def nxF (xs : List Int) (t n : Int) : Int :=
  if xs.length = 0 then t * 7 % n else
    (if 200 < n then (xs.getD (t % (xs.length : Int)).toNat 0 + t / (xs.length : Int) * 37) * 251 + xs.getD ((t + 1) % (xs.length : Int)).toNat 0 * 13 + t
      else xs.getD (t % (xs.length : Int)).toNat 0 + t / (xs.length : Int) * 37) % n
set_option maxHeartbeats 2000000 in
theorem l1NextV_any (w : World) (s g : Nat) (a : Option Addr) (c : Nat) (xs : List Int) (t n : Int) (hs : Src w s a xs.length c t) (hr : Rd w g a .u8 xs) (hne : 0 < xs.length → g ≠ s) (hb : Byt xs) (hl : xs.length ≤ 4194304)
    (t0 : 0 ≤ t) (t1 : t ≤ 1048576) (n0 : 1 ≤ n) (n1 : n ≤ 1048576) :
    Calls Tryz.prog 36 #[.pointer (some ⟨s, 0, none⟩), .int .i64 n] w fun e w' => e = .returned (.int .i64 (nxF xs t n)) ∧ (0 ≤ nxF xs t n ∧ nxF xs t n < n) ∧ Src w' s a xs.length c (t + 1) ∧ Only s w w' := by
  have c0 := hs.code
  have c1 := hs.at_
  have f1 := hs.free
  have k1 : (w.setCell ⟨s, 1, none⟩ (.int .i64 (t + 1))).cell? ⟨s, 1, none⟩ = some (.int .i64 (t + 1)) := World.cell?_setCell_same _ _ _ hs.at_
  have k0 : (w.setCell ⟨s, 1, none⟩ (.int .i64 (t + 1))).cell? ⟨s, 0, none⟩ = some (.slice a xs.length c) := by rw [World.cell?_setCell_other (h := by simp)]; exact hs.code
  have tn : decide (n < 1) = false := by simp; omega
  by_cases h0 : xs.length = 0
  · have hk : ((xs.length : Int) == 0) = true := by simp [h0]
    have r0 := Int.emod_nonneg (t * 7) (show n ≠ 0 by omega)
    have r1 := Int.emod_lt_of_pos (t * 7) (show 0 < n by omega)
    have V : nxF xs t n = t * 7 % n := by unfold nxF; rw [if_pos h0]
    rw [V]
    clear V
    have S := hs.step (t + 1) 0
    have O := Only.step w s (.int .i64 (t + 1)) 0
    clear h0
    go_enter Tryz.func36, Tryz.ntmps36
    go_wp2
    go_ret
    exact ⟨rfl, ⟨r0, r1⟩, S, O⟩
  · have hk : ((xs.length : Int) == 0) = false := beq_eq_false_iff_ne.2 (by omega)
    obtain ⟨off, rfl, hc⟩ := hr (by omega)
    have gs : g ≠ s := hne (by omega)
    obtain ⟨i1, hi1⟩ := Int.eq_ofNat_of_zero_le (Int.emod_nonneg t (show (xs.length : Int) ≠ 0 by omega))
    have li1 : (i1 : Int) < (xs.length : Int) := by rw [← hi1]; exact Int.emod_lt_of_pos _ (by omega)
    obtain ⟨i2, hi2⟩ := Int.eq_ofNat_of_zero_le (Int.emod_nonneg (t + 1) (show (xs.length : Int) ≠ 0 by omega))
    have li2 : (i2 : Int) < (xs.length : Int) := by rw [← hi2]; exact Int.emod_lt_of_pos _ (by omega)
    obtain ⟨q, hq⟩ : ∃ q, t / (xs.length : Int) = q := ⟨_, rfl⟩
    have q0 : 0 ≤ q := by rw [← hq]; exact Int.ediv_nonneg t0 (by omega)
    have q1 : q ≤ 1048576 := by rw [← hq]; exact Int.le_trans (Int.ediv_le_self _ t0) t1
    have x1 : (w.setCell ⟨s, 1, none⟩ (.int .i64 (t + 1))).cell? ⟨g, off + i1, none⟩ = some (.int .u8 (xs.getD i1 0)) := by rw [World.cell?_setCell_other (h := fun e => gs (by simpa using (congrArg Addr.block e).symm))]; exact hc i1 (by omega)
    have x2 : (w.setCell ⟨s, 1, none⟩ (.int .i64 (t + 1))).cell? ⟨g, off + i2, none⟩ = some (.int .u8 (xs.getD i2 0)) := by rw [World.cell?_setCell_other (h := fun e => gs (by simpa using (congrArg Addr.block e).symm))]; exact hc i2 (by omega)
    have b1 := hb i1
    have b2 := hb i2
    have S := fun m => hs.step (t + 1) m
    have O := fun m => Only.step w s (.int .i64 (t + 1)) m
    have V : nxF xs t n = (if 200 < n then (xs.getD i1 0 + q * 37) * 251 + xs.getD i2 0 * 13 + t else xs.getD i1 0 + q * 37) % n := by
      unfold nxF
      rw [if_neg h0, hi1, hi2, hq]
      rfl
    generalize xs.getD i1 0 = x at *
    generalize xs.getD i2 0 = y at *
    rw [V]
    clear V
    clear hc hs hr h0
    by_cases hn : n ≤ 200
    · have tn2 : decide (200 < n) = false := by simp; omega
      rw [if_neg (by omega : ¬ 200 < n)]
      have r0 := Int.emod_nonneg (x + q * 37) (show n ≠ 0 by omega)
      have r1 := Int.emod_lt_of_pos (x + q * 37) (show 0 < n by omega)
      clear x2 hi2 li2 b2
      go_enter Tryz.func36, Tryz.ntmps36
      go_wp2
      go_quiet (fail)
      go_wp2
      go_ret
      exact ⟨rfl, ⟨r0, r1⟩, S _, O _⟩
    · have tn2 : decide (200 < n) = true := by simp; omega
      rw [if_pos (by omega : 200 < n)]
      have r0 := Int.emod_nonneg ((x + q * 37) * 251 + y * 13 + t) (show n ≠ 0 by omega)
      have r1 := Int.emod_lt_of_pos ((x + q * 37) * 251 + y * 13 + t) (show 0 < n by omega)
      go_enter Tryz.func36, Tryz.ntmps36
      go_wp2
      go_quiet (fail)
      go_wp2
      go_quiet (fail)
      go_wp2
      go_ret
      exact ⟨rfl, ⟨r0, r1⟩, S _, O _⟩

/-- The bytes that are drawn. -/
def dbF (xs : List Int) (t : Int) : Nat → List Int
  | 0 => []
  | k + 1 => dbF xs t k ++ [nxF xs (t + (k : Int)) 256]
theorem dbF_len (xs : List Int) (t : Int) : ∀ k, (dbF xs t k).length = k
  | 0 => rfl
  | k + 1 => by simp [dbF, dbF_len xs t k]
theorem nx_in (xs : List Int) (t : Int) {n : Int} (h : 0 < n) : 0 ≤ nxF xs t n ∧ nxF xs t n < n := by
  unfold nxF
  split
  · exact ⟨Int.emod_nonneg _ (by omega), Int.emod_lt_of_pos _ h⟩
  · exact ⟨Int.emod_nonneg _ (by omega), Int.emod_lt_of_pos _ h⟩
theorem dbF_byt (xs : List Int) (t : Int) : ∀ k, Byt (dbF xs t k)
  | 0 => byt_nil
  | k + 1 => byt_snoc (dbF_byt xs t k) _ (nx_in xs _ (by decide)).1 (nx_in xs _ (by decide)).2
set_option maxHeartbeats 2000000 in
theorem l1DrawBytesV_any (w : World) (s g : Nat) (a : Option Addr) (c : Nat) (xs : List Int) (t : Int) (n : Nat) (hs : Src w s a xs.length c t) (hr : Rd w g a .u8 xs) (hne : 0 < xs.length → g ≠ s) (hb : Byt xs) (hl : xs.length ≤ 4194304)
    (t0 : 0 ≤ t) (t1 : t + (n : Int) ≤ 1048576) :
    Calls Tryz.prog 35 #[.pointer (some ⟨s, 0, none⟩), .int .i64 n] w fun e w' => NewRow w.heap.size w' e .u8 (dbF xs t n) ∧ Src w' s a xs.length c (t + (n : Int)) ∧ But s w w' := by
  obtain ⟨i0, hi, hz0, hz1, hz2⟩ := info_parts Tryz.info5
  have hown0 : (w.alloc (.cells #[] 5)).ownsRow w.heap.size 5 1 (.slice (some ⟨w.heap.size, 0, none⟩) 0 0) 0 [] := World.ownsRow_lit w #[] 0 (Nat.le_refl _) (by unfold maxLen; omega) (by simp)
  have hal : Below w.heap.size w (w.alloc (.cells #[] 5)) := (Below.refl _ _).alloc (Nat.le_refl _) _
  have hsl := hs.lt
  go_enter Tryz.func35, Tryz.ntmps35
  go_wp2
  go_loopw [5, 6] (fun v i wr => ∃ (k : Nat), k ≤ n ∧ i = .int .i64 k ∧ wr.ownsRow w.heap.size 5 1 v k ((dbF xs t k).map (Value.int .u8)) ∧ Src wr s a xs.length c (t + (k : Int)) ∧ But s w wr) (fun _ i _ => n - (intOf i).toNat)
  case atStart => exact ⟨0, Nat.zero_le _, rfl, hown0, by simpa using hs.up hal, But.ofBelow hal⟩
  case round =>
    obtain ⟨k, hk, rfl, hown, hS, hN⟩ := hrel
    have e1 : dbF xs t (k + 1) = dbF xs t k ++ [nxF xs (t + (k : Int)) 256] := rfl
    have hyl : Hid ((dbF xs t k).length = k) := dbF_len xs t k
    obtain ⟨ys, hys⟩ : ∃ ys, ys = dbF xs t k := ⟨_, rfl⟩
    rw [← hys] at hown e1 hyl
    have hr' := hr.but hN hne
    by_cases hlt : k < n
    · have hob := hown.lt
      go_wp2_with fail
      refine (l1NextV_any wr s g a c xs (t + (k : Int)) 256 hS hr' hne hb hl (by omega) (by omega) (by decide) (by decide)).mono ?_
      rintro e w1 ⟨rfl, ⟨r0, r1⟩, S1, O1⟩
      obtain ⟨r, hrr⟩ : ∃ r, r = nxF xs (t + (k : Int)) 256 := ⟨_, rfl⟩
      rw [← hrr] at r0 r1 e1 ⊢
      clear hys hrr
      have N1 := hN.only O1
      have hown1 := hown.kept O1.grown (by
        cases hv : Value.ownBlock _ with
        | none => exact .inl rfl
        | some q => exact .inr (fun e => by have := (hob q hv).1; simp at e; omega))
      have m1 : r % 256 = r := by omega
      have sz := N1.size
      clear hown hS hN O1 hr'
      go_wp2_with (at_builtin; refine wpList_append_own _ rfl _ _ 22 rfl w.heap.size 5 i0 (.int .u8 0) 1 1 Tryz.underlying22 hi hz0 hz1 hz2 rfl (by decide) _ k (ys.map (Value.int .u8)) rfl (hown1.alloc _) ⟨w1.heap.size, 0, none⟩ 1 1 [.int .u8 r] rfl rfl ?c1 ?c2 ?c3 ?c4 ?c5 ?_)
      case c1 =>
        intro j u hj
        match j, hj with
        | 0, hj => simp at hj; subst hj; simp [Addr.add]
      case c2 => intro u hu; simp at hu; subst hu; rfl
      case c3 => unfold maxLen; omega
      case c4 => omega
      case c5 => simp; omega
      · intro v' w2 hown2 hgrow _
        have nA : But s w (w1.alloc (.cells #[.int .u8 r] 5)) := N1.trans (But.ofBelow ((Below.refl _ _).alloc (Nat.le_refl _) _))
        have N2 := nA.grown hgrow (fun i hi => (hob i hi).1)
        have S2 : Src w2 s a xs.length c (t + ((k + 1 : Nat) : Int)) := by
          have := (S1.up ((Below.refl _ _).alloc (Nat.le_refl _) (.cells #[.int .u8 r] 5))).of_block (hgrow.block s (by simp; omega) (fun e => by have := (hob s e.symm).1; omega))
          rw [show t + ((k + 1 : Nat) : Int) = t + (k : Int) + 1 by omega]
          exact this
        have hown3 : w2.ownsRow w.heap.size 5 1 v' (k + 1) ((ys ++ [r]).map (Value.int .u8)) := by simpa using hown2
        rw [← e1] at hown3
        clear hown1 hown2 hgrow N1 S1 nA hob
        go_wp2
        go_roundw
        case rel => exact ⟨k + 1, by omega, by go_num, hown3, S2, N2⟩
        case measure => simp [intOf]; omega
    · obtain rfl : k = n := by omega
      have HY := hide hys
      clear hys e1
      have hown' := hown
      rw [← hyl.out] at hown'
      obtain ⟨a', c', g', hv, o1, o2, o3, o4⟩ := Own.of_ownsRow hown'
      subst hv
      clear hown hown'
      go_wp2
      go_ret
      obtain rfl := HY.out
      exact ⟨⟨_, _, g', rfl, o1, o2, o3, o4⟩, hS, hN⟩

set_option maxHeartbeats 400000 in
theorem l1ChanceV_any (w : World) (s g : Nat) (a : Option Addr) (c : Nat) (xs : List Int) (t n : Int) (hs : Src w s a xs.length c t) (hr : Rd w g a .u8 xs) (hne : 0 < xs.length → g ≠ s) (hb : Byt xs) (hl : xs.length ≤ 4194304)
    (t0 : 0 ≤ t) (t1 : t ≤ 1048576) (n0 : 1 ≤ n) (n1 : n ≤ 1048576) :
    Calls Tryz.prog 76 #[.pointer (some ⟨s, 0, none⟩), .int .i64 n] w fun e w' => e = .returned (.bool (nxF xs t n == 0)) ∧ Src w' s a xs.length c (t + 1) ∧ Only s w w' := by
  go_enter Tryz.func76, Tryz.ntmps76
  go_wp2_with fail
  refine (l1NextV_any w s g a c xs t n hs hr hne hb hl t0 t1 n0 n1).mono ?_
  rintro e w1 ⟨rfl, _, S1, O1⟩
  go_wp2
  go_ret
  exact ⟨rfl, S1, O1⟩

end Go.Proofs.YtliahigljoeeoaaGreatDoor

/-
  The model's numbers of int64, and its l5Small, told as values.
-/
namespace Go.Proofs.YtliahigljoeeoaaGreatDoor
set_option maxRecDepth 100000
open Go Go.RowKit

/-- The bytes of a number below 65536, the highest first. -/
def inF (v : Int) : List Int := if v = 0 then [] else if v < 256 then [v] else [v / 256, v % 256]
def InS (v t : Int) (ys : List Int) : Prop := (ys = [] ∧ t = v) ∨ (ys = [v % 256] ∧ t = v / 256 ∧ 0 < v) ∨ (ys = [v % 256, v / 256] ∧ t = 0 ∧ 256 ≤ v)
theorem InS.go {v t : Int} {ys : List Int} (h : InS v t ys) (h0 : 0 < t) (hv : v < 65536) : InS v (t / 256) (ys ++ [t % 256]) := by
  rcases h with ⟨rfl, rfl⟩ | ⟨rfl, rfl, h1⟩ | ⟨rfl, rfl, h1⟩
  · exact Or.inr (Or.inl ⟨rfl, rfl, h0⟩)
  · refine Or.inr (Or.inr ⟨?_, by omega, by omega⟩)
    rw [show v / 256 % 256 = v / 256 by omega]
    rfl
  · omega
theorem InS.short {v t : Int} {ys : List Int} (h : InS v t ys) (h0 : 0 < t) (hv : v < 65536) : ys.length + 1 ≤ 2 := by
  rcases h with ⟨rfl, rfl⟩ | ⟨rfl, rfl, h1⟩ | ⟨rfl, rfl, h1⟩
  · simp
  · simp
  · omega
theorem InS.turn {v : Int} {ys zs : List Int} (h : InS v 0 ys) (v0 : 0 ≤ v) (hv : v < 65536) (z : TurnTo ys zs ys.length) : zs = inF v := by
  obtain ⟨z1, z2⟩ := z
  unfold inF
  rcases h with ⟨rfl, rfl⟩ | ⟨rfl, h2, h1⟩ | ⟨rfl, _, h1⟩
  · rw [if_pos rfl]
    exact List.eq_nil_of_length_eq_zero z1
  · rw [if_neg (by omega), if_pos (by omega)]
    match zs, z1 with
    | [x], _ =>
      have := z2 0 (by simp)
      simp at this
      rw [this, show v % 256 = v by omega]
  · rw [if_neg (by omega), if_neg (by omega)]
    match zs, z1 with
    | [x, y], _ =>
      have a := z2 0 (by simp)
      have b := z2 1 (by simp)
      simp at a b
      rw [a, b]
theorem inF_byt {v : Int} (h0 : 0 ≤ v) (h1 : v < 65536) : Byt (inF v) ∧ (inF v).length ≤ 2 := by
  unfold inF
  split
  · exact ⟨byt_nil, by simp⟩
  · split
    · exact ⟨byt_snoc (ys := []) byt_nil v h0 (by omega), by simp⟩
    · exact ⟨byt_snoc (ys := [v / 256]) (byt_snoc (ys := []) byt_nil _ (by omega) (by omega)) _ (by omega) (by omega), by simp⟩
set_option maxHeartbeats 2000000 in
theorem l1IntV_any (w : World) (v : Int) (v0 : 0 ≤ v) (v1 : v < 65536) :
    Calls Tryz.prog 155 #[.int .i64 v] w fun e w' => NewRow w.heap.size w' e .u8 (inF v) ∧ Below w.heap.size w w' := by
  obtain ⟨i0, hi, hz0, hz1, hz2⟩ := info_parts Tryz.info5
  have hown0 : (w.alloc (.cells #[] 5)).ownsRow w.heap.size 5 1 (.slice (some ⟨w.heap.size, 0, none⟩) 0 0) 0 [] := World.ownsRow_lit w #[] 0 (Nat.le_refl _) (by unfold maxLen; omega) (by simp)
  have hal : Below w.heap.size w (w.alloc (.cells #[] 5)) := (Below.refl _ _).alloc (Nat.le_refl _) _
  go_enter Tryz.func155, Tryz.ntmps155
  go_wp2
  go_loopw [0, 3] (fun q ov wr => ∃ (k : Nat) (t : Int) (ys : List Int), q = .int .i64 t ∧ 0 ≤ t ∧ t < 65536 ∧ k ≤ 2 ∧ Hid (InS v t ys) ∧ Hid (ys.length = k) ∧ Byt ys ∧ wr.ownsRow w.heap.size 5 1 ov k (ys.map (Value.int .u8)) ∧ Below w.heap.size w wr) (fun q _ _ => (intOf q).toNat)
  case atStart => exact ⟨0, v, [], rfl, v0, v1, by omega, Or.inl ⟨rfl, rfl⟩, rfl, byt_nil, hown0, hal⟩
  case round =>
    obtain ⟨k, t, ys, rfl, ht0, ht1, hk1, hI, hyl, hyb, hown, hN⟩ := hrel
    have hob := hown.lt
    by_cases hlt : 0 < t
    · have hI2 := hide (InS.go hI.out hlt v1)
      have hk2 : k + 1 ≤ 2 := by have := InS.short hI.out hlt v1; rw [hyl.out] at this; exact this
      have c0 : 0 ≤ t % 256 := by omega
      have c1 : t % 256 < 256 := by omega
      obtain ⟨u, hu⟩ : ∃ u, u = t % 256 := ⟨_, rfl⟩
      rw [← hu] at hI2 c0 c1
      have hu2 := hu.symm
      clear hk1 hI hu
      go_wp2_with (at_builtin; refine wpList_append_own _ rfl _ _ 22 rfl w.heap.size 5 i0 (.int .u8 0) 1 1 Tryz.underlying22 hi hz0 hz1 hz2 rfl (by decide) _ k (ys.map (Value.int .u8)) rfl (hown.alloc _) ⟨wr.heap.size, 0, none⟩ 1 1 [.int .u8 u] rfl rfl ?c1 ?c2 ?c3 ?c4 ?c5 ?_)
      case c1 =>
        intro j x hj
        match j, hj with
        | 0, hj => simp at hj; subst hj; simp [Addr.add]
      case c2 => intro x hx; simp at hx; subst hx; rfl
      case c3 => unfold maxLen; omega
      case c4 => omega
      case c5 => simp; have := hN.size; omega
      · intro v' w2 hown2 hgrow _
        have nA : Below w.heap.size w (wr.alloc (.cells #[.int .u8 u] 5)) := hN.alloc hN.size _
        have N2 : Below w.heap.size w w2 := nA.grown hgrow (by simp; have := hN.size; omega) (fun i hi => (hob i hi).1)
        have hown3 : w2.ownsRow w.heap.size 5 1 v' (k + 1) ((ys ++ [u]).map (Value.int .u8)) := by simpa using hown2
        have hl3 : Hid ((ys ++ [u]).length = k + 1) := by show _ = _; have := hyl.out; simp; omega
        have hb3 := byt_snoc hyb u c0 c1
        clear hown hown2 hgrow nA hob
        go_wp2
        go_roundw
        case rel => exact ⟨k + 1, t / 256, ys ++ [u], rfl, by omega, by omega, hk2, hI2, hl3, hb3, hown3, N2⟩
        case measure => simp [intOf]; omega
    · obtain rfl : t = 0 := by omega
      have hown' := hown
      rw [← hyl.out] at hown'
      obtain ⟨a', c', g', hv, o1, o2, o3, o4⟩ := Own.of_ownsRow hown'
      subst hv
      have L : ys.length ≤ 2 := by rw [hyl.out]; exact hk1
      have T := l1Turn_any wr g' a' c' ys o1.rd hyb (by omega)
      have HT := hide T
      clear hown hown' T
      go_wp2_with fail
      refine (unhide HT).mono ?_
      rintro e w3 ⟨zs, zt, zb, ⟨a3, c3, g3, rfl, o31, o32, o33, o34⟩, n3⟩
      have ZI := hide (InS.turn hI.out v0 v1 zt)
      clear zt hI
      have N3 := nxt hN n3
      have sz := hN.size
      go_wp2
      go_ret
      rw [← ZI.out]
      exact ⟨⟨_, _, g3, rfl, o31, o32, o33, by omega⟩, N3⟩

/-- The bytes of a number, the highest first and none of them 0. -/
def topG : Nat → Int → List Int
  | 0, _ => []
  | n + 1, v => if v ≤ 0 then [] else topG n (v / 256) ++ [v % 256]
def topF (v : Int) : List Int := topG v.toNat v
theorem topG_is : ∀ (n : Nat) (v : Int), 0 ≤ v → v.toNat ≤ n → Canon (topG n v) v
  | 0, v, h, k => by
    obtain rfl : v = 0 := by omega
    exact ⟨byt_nil, rfl, fun h => absurd h (by simp [topG])⟩
  | n + 1, v, h, k => by
    rw [topG]
    by_cases c : v ≤ 0
    · rw [if_pos c]
      obtain rfl : v = 0 := by omega
      exact ⟨byt_nil, rfl, fun h => absurd h (by simp)⟩
    · rw [if_neg c]
      obtain ⟨b, e, t⟩ := topG_is n (v / 256) (by omega) (by omega)
      refine ⟨byt_snoc b _ (by omega) (by omega), by rw [bval_snoc, e]; omega, fun _ => ?_⟩
      generalize topG n (v / 256) = ys at *
      cases ys with
      | nil =>
        have e0 : (0 : Int) = v / 256 := e
        show v % 256 ≠ 0
        omega
      | cons x xs => exact t (by simp)
theorem topF_eq {t : List Int} {v : Int} (h : Canon t v) : topF v = t := (topG_is _ _ (h.2.1 ▸ bval_nonneg h.1) (Nat.le_refl _)).uniq h
/-- A point by a number. -/
def tmP (ks xs ys : List Int) : W3 := acc dE (num xs, num ys, 1) (bitOf (topF (lsum (fun j => ks.getD j 0) ks.length))) (8 * (topF (lsum (fun j => ks.getD j 0) ks.length)).length)
def plX (p : W3) : List Int := fill (byt (p.1 * iv p.2.2 % PP)) 32
def plY (p : W3) : List Int := fill (byt (p.2.1 * iv p.2.2 % PP)) 32
def E3F (p : W3) : Fact := ⟨fun v _ => ∃ x y z, v = ag48 x y z ∧ (L16 x ∧ s16 x 16 % PP = p.1 % PP) ∧ (L16 y ∧ s16 y 16 % PP = p.2.1 % PP) ∧ (L16 z ∧ s16 z 16 % PP = p.2.2 % PP), fun _ h => h⟩
section
variable {ops : Array Oper} {Q : Exit → Act → World → Prop} {md : Region.Mode} {F : Nat → Fact} {a0 : Act} {w0 : World} {i : Nat} {o : Oper} {ts : Array TypeId}
theorem step_intV (hi : ops[i]? = some o) (p j : Nat) (v : Int) (hv : 0 ≤ v ∧ v < 65536) (hop : o.op = .call { callee := .value (.func 155), args := #[.tmp p], argTypes := ts })
    (hj : waits md ops i j p = true) (hFj : F j = Fact.eq (.int .i64 v)) (hFi : F i = RN w0 (fun xs => xs = inF v)) : StepOk Tryz.prog md ops Q F a0 w0 i := by
  refine step_call hi _ _ ts hop en_int fun a w _ hw hF => ?_
  have ea := hF j p hj
  rw [hFj] at ea
  have e1 : a.tmps.getD p undef = .int .i64 v := ea
  show Calls Tryz.prog 155 #[a.tmps.getD p undef] w _
  rw [e1]
  refine (l1IntV_any w v hv.1 hv.2).mono ?_
  rintro r w' ⟨⟨b, c, g, rfl, ow, k1, k2, hg⟩, hn⟩
  rw [hFi]
  exact ⟨_, rfl, hn, inF v, b, c, g, rfl, ow, Nat.le_trans hw.size hg, rfl, k1, k2⟩
theorem step_litV (hi : ops[i]? = some o) (p j : Nat) {zs : List Int} (hop : o.op = .call { callee := .value (.func 127), args := #[.tmp p, .const (.int .i64 32)], argTypes := ts })
    (hj : waits md ops i j p = true) (hz : Byt zs ∧ zs.length ≤ 2) (hFj : F j = RN w0 (fun xs => xs = zs)) (hFi : F i = RN w0 (fun xs => xs = fill (dig zs) 32)) : StepOk Tryz.prog md ops Q F a0 w0 i := by
  refine step_call hi _ _ ts hop en_little fun a w _ hw hF => ?_
  have ea := hF j p hj
  rw [hFj] at ea
  obtain ⟨xs, b, c, g, e1, ow, hg, rfl, k1, k2⟩ := ea
  show Calls Tryz.prog 127 #[a.tmps.getD p undef, .int .i64 32] w _
  rw [e1]
  refine (l1Little_any w g b c xs 32 ow.rd hz.1 (by omega) (by omega)).mono ?_
  rintro r w' ⟨rfl, B, hn⟩
  rw [hFi]
  exact ⟨_, rfl, hn, fill (dig xs) 32, _, 32, w.heap.size, by rw [fill_len], B.own0, hw.size, rfl, by simp, by rw [fill_len]; omega⟩
theorem step_timesV (hi : ops[i]? = some o) (p q j k : Nat) {ks f g : List Int} (hop : o.op = .call { callee := .value (.func 67), args := #[.tmp p, .tmp q], argTypes := ts })
    (hj : waits md ops i j p = true) (hk : waits md ops i k q = true) (hks : Byt ks ∧ ks.length ≤ 4096) (hf : PtOk f g) (hFj : F j = RN w0 (fun xs => xs = ks)) (hFk : F k = PT w0 (fun xs ys => xs = f ∧ ys = g)) (hFi : F i = E3F (tmP ks f g)) : StepOk Tryz.prog md ops Q F a0 w0 i := by
  refine step_call hi _ _ ts hop en_times fun a w _ _ hF => ?_
  have ea := hF j p hj
  have eb := hF k q hk
  rw [hFj] at ea
  rw [hFk] at eb
  obtain ⟨ks, b, c, h, e1, ow, _, rfl, _, _⟩ := ea
  obtain ⟨xs, ys, b1, b2, c1, c2, h1, h2, e2, o1, o2, _, _, rfl, rfl⟩ := eb
  show Calls Tryz.prog 67 #[a.tmps.getD p undef, a.tmps.getD q undef] w _
  rw [e1, e2]
  refine (l5Times_any w h h1 h2 b b1 b2 c c1 c2 ks xs ys ow.rd hks.1 hks.2 o1.rd o2.rd hf.1.1 hf.2.1 hf.1.2 hf.2.2).mono ?_
  rintro r w' ⟨top, P, x, y, z, hc, hP, rfl, hx, hy, hz, hn⟩
  rw [hFi]
  have e : tmP ks xs ys = P := by unfold tmP; rw [topF_eq hc, hP]
  rw [e]
  exact ⟨_, rfl, hn, x, y, z, rfl, hx, hy, hz⟩
theorem step_plainV (hi : ops[i]? = some o) (p j : Nat) {P : W3} (hop : o.op = .call { callee := .value (.func 66), args := #[.tmp p], argTypes := ts })
    (hj : waits md ops i j p = true) (hFj : F j = E3F P) (hFi : F i = PT w0 (fun xs ys => xs = plX P ∧ ys = plY P)) : StepOk Tryz.prog md ops Q F a0 w0 i := by
  refine step_call hi _ _ ts hop en_plain fun a w _ hw hF => ?_
  have ea := hF j p hj
  rw [hFj] at ea
  obtain ⟨x, y, z, e1, hx, hy, hz⟩ := ea
  show Calls Tryz.prog 66 #[a.tmps.getD p undef] w _
  rw [e1]
  refine (l5Plain_any w x y z _ _ _ hx hy hz).mono ?_
  rintro r w' ⟨⟨b, b', c, c', g, g', rfl, o1, o2, l1, l2⟩, hn⟩
  rw [hFi]
  exact ⟨_, rfl, hn, _, _, b, b', c, c', g, g', rfl, o1, o2, Nat.le_trans hw.size l1, Nat.le_trans hw.size l2, rfl, rfl⟩
theorem step_zeroV (hi : ops[i]? = some o) (hop : o.op = .call { callee := .value (.func 68), args := #[], argTypes := ts }) (hFi : F i = PT w0 (fun xs ys => xs = fill (byt (0 % PP)) 32 ∧ ys = fill (byt (1 % PP)) 32)) : StepOk Tryz.prog md ops Q F a0 w0 i := by
  refine step_call hi _ _ ts hop en_zero fun a w _ hw _ => ?_
  refine (pointZero_any w).mono ?_
  rintro r w' ⟨⟨b, b', c, c', g, g', rfl, o1, o2, l1, l2⟩, hn⟩
  rw [hFi]
  exact ⟨_, rfl, hn, _, _, b, b', c, c', g, g', rfl, o1, o2, Nat.le_trans hw.size l1, Nat.le_trans hw.size l2, rfl, rfl⟩
end
def sqA : Int := ((1) + (rootV ((1) + (dE)))) * (iv (dE))
def sqB : Int := ((1) - (rootV ((1) + (dE)))) * (iv (dE))
def ptA : List Int × List Int := (fill (byt (rootV sqA % PP)) 32, fill (byt (rootV sqA * rootV (0 - 1) % PP)) 32)
def ptB : List Int × List Int := (fill (byt (rootV sqB % PP)) 32, fill (byt (rootV sqB * rootV (0 - 1) % PP)) 32)
theorem ptA_ok : PtOk ptA.1 ptA.2 := ⟨⟨bytes_5 _ _, fill_len _ _⟩, bytes_5 _ _, fill_len _ _⟩
theorem ptB_ok : PtOk ptB.1 ptB.2 := ⟨⟨bytes_5 _ _, fill_len _ _⟩, bytes_5 _ _, fill_len _ _⟩
/-- One of the eight small points. -/
def smP (k : Int) : List Int × List Int :=
  if rootB sqA = true then (plX (tmP (fill (dig (inF k)) 32) ptA.1 ptA.2), plY (tmP (fill (dig (inF k)) 32) ptA.1 ptA.2))
  else if rootB sqB = true then (plX (tmP (fill (dig (inF k)) 32) ptB.1 ptB.2), plY (tmP (fill (dig (inF k)) 32) ptB.1 ptB.2))
  else (fill (byt (0 % PP)) 32, fill (byt (1 % PP)) 32)
theorem pl_ok (p : W3) : PtOk (plX p) (plY p) := ⟨⟨bytes_5 _ _, fill_len _ _⟩, bytes_5 _ _, fill_len _ _⟩
theorem smP_ok (k : Int) : PtOk (smP k).1 (smP k).2 := by
  unfold smP
  generalize rootB sqA = p
  generalize rootB sqB = q
  cases p
  · cases q
    · exact ⟨⟨bytes_5 _ _, fill_len _ _⟩, bytes_5 _ _, fill_len _ _⟩
    · exact pl_ok _
  · exact pl_ok _
set_option maxHeartbeats 4000000 in
theorem l5SmallV_any (w : World) (k : Int) (k0 : 0 ≤ k) (k1 : k ≤ 255) :
    Calls Tryz.prog 153 #[.int .i64 k] w fun r w' => NewPt w.heap.size w' r (smP k).1 (smP k).2 ∧ Below w.heap.size w w' := by
  go_enter Tryz.func153, Tryz.ntmps153
  go_upto_region 1 with fail
  change Code.wp _ _ _ _ (w.alloc pObj)
  have TR := there_p w
  have N : Below w.heap.size w (w.alloc pObj) := (Below.refl _ _).alloc (Nat.le_refl _) _
  generalize w.alloc pObj = wr at *
  have zr := there_lt (by omega) TR
  refine region_new16 2 1 0 3 10 _ (fun i => [EL dE, NB wr 16].getD i Fact.no) (dE) (by kernel_rfl) rfl rfl rfl (by kernel_rfl) (by kernel_rfl) rfl rfl ?_ ?_
  · intro i hi
    obtain rfl | rfl : i = 0 ∨ i = 1 := by omega
    · exact step_d rfl rfl rfl
    · exact step_new16 rfl rfl rfl
  intro vs1 q3 W1 v3 h3 n1 E3' T3
  have mn1 := n1.size
  replace TR := there_up (by omega) TR n1
  replace N := nxt N n1
  clear n1 T3
  simp only [puts, v3, Act.put, List.setIfInBounds_toArray, List.set_cons_succ, List.set_cons_zero]
  clear v3
  go_upto_region 2 with fail
  refine region_new16 9 7 6 5 17 _ (fun i => [EL 0, EL 1, EL ((0) - (1)), RT ((0) - (1)), RT ((0) - (1)), Fact.eq (.bool (rootB ((0) - (1)))), EL (rootV ((0) - (1))), NB W1 16, Fact.eq (.bool (rootB ((0) - (1))))].getD i Fact.no) (rootV ((0) - (1))) (by kernel_rfl) rfl rfl rfl (by kernel_rfl) (by kernel_rfl) rfl rfl ?_ ?_
  · intro i hi
    obtain rfl | rfl | rfl | rfl | rfl | rfl | rfl | rfl | rfl : i = 0 ∨ i = 1 ∨ i = 2 ∨ i = 3 ∨ i = 4 ∨ i = 5 ∨ i = 6 ∨ i = 7 ∨ i = 8 := by omega
    · exact step_small rfl 0 (by omega) rfl rfl
    · exact step_small rfl 1 (by omega) rfl rfl
    · exact step_sub rfl 12 13 0 1 _ _ rfl (by kernel_rfl) (by kernel_rfl) rfl rfl rfl
    · exact step_root rfl 14 2 _ rfl (by kernel_rfl) rfl rfl
    · exact step_move rfl 15 3 (by exact Or.inl rfl) (by kernel_rfl) rfl
    · exact step_ext0 rfl 11 4 _ rfl (by kernel_rfl) rfl rfl
    · exact step_ext1 rfl 11 4 _ rfl (by kernel_rfl) rfl rfl
    · exact step_new16 rfl rfl rfl
    · exact step_move rfl 16 5 (by exact Or.inr rfl) (by kernel_rfl) rfl
  intro vs2 q5 W2 v5 h5 n2 E5 T5
  have y5 := E5.lt
  have mn2 := n2.size
  replace E3' := E3'.up n2
  replace TR := there_up (by omega) TR n2
  replace N := nxt N n2
  clear n2 T5
  simp only [puts, v5, Act.put, List.setIfInBounds_toArray, List.set_cons_succ, List.set_cons_zero]
  clear v5
  go_upto_region 3 with fail
  refine region_new16 9 7 6 7 24 _ (fun i => [EL 1, EL (dE), EL ((1) + (dE)), RT ((1) + (dE)), RT ((1) + (dE)), Fact.eq (.bool (rootB ((1) + (dE)))), EL (rootV ((1) + (dE))), NB W2 16, Fact.eq (.bool (rootB ((1) + (dE))))].getD i Fact.no) (rootV ((1) + (dE))) (by kernel_rfl) rfl rfl rfl (by kernel_rfl) (by kernel_rfl) rfl rfl ?_ ?_
  · intro i hi
    obtain rfl | rfl | rfl | rfl | rfl | rfl | rfl | rfl | rfl : i = 0 ∨ i = 1 ∨ i = 2 ∨ i = 3 ∨ i = 4 ∨ i = 5 ∨ i = 6 ∨ i = 7 ∨ i = 8 := by omega
    · exact step_small rfl 1 (by omega) rfl rfl
    · exact step_el rfl 84 3 rfl Go.Proofs.YtliahigljoeeoaaGreatDoor.u50 i50 (by kernel_rfl) _ _ rfl _ E3' rfl
    · exact step_add rfl 19 20 0 1 _ _ rfl (by kernel_rfl) (by kernel_rfl) rfl rfl rfl
    · exact step_root rfl 21 2 _ rfl (by kernel_rfl) rfl rfl
    · exact step_move rfl 22 3 (by exact Or.inl rfl) (by kernel_rfl) rfl
    · exact step_ext0 rfl 18 4 _ rfl (by kernel_rfl) rfl rfl
    · exact step_ext1 rfl 18 4 _ rfl (by kernel_rfl) rfl rfl
    · exact step_new16 rfl rfl rfl
    · exact step_move rfl 23 5 (by exact Or.inr rfl) (by kernel_rfl) rfl
  intro vs3 q7 W3' v7 h7 n3 E7 T7
  have mn3 := n3.size
  replace E3' := E3'.up n3
  replace E5 := E5.up n3
  replace TR := there_up (by omega) TR n3
  replace N := nxt N n3
  clear n3 T7
  simp only [puts, v7, Act.put, List.setIfInBounds_toArray, List.set_cons_succ, List.set_cons_zero]
  clear v7
  go_upto_region 4 with fail
  refine region_new16F 12 10 9 9 34 _ (fun i => [EL 1, EL (rootV ((1) + (dE))), EL ((1) + (rootV ((1) + (dE)))), EL (dE), EL (iv (dE)), EL (sqA), RT (sqA), RT (sqA), Fact.eq (.bool (rootB (sqA))), EL (rootV (sqA)), NB W3' 16, Fact.eq (.bool (rootB (sqA)))].getD i Fact.no) (rootV (sqA)) (by kernel_rfl) rfl rfl rfl (by kernel_rfl) (by kernel_rfl) rfl rfl ?_ ?_
  · intro i hi
    obtain rfl | rfl | rfl | rfl | rfl | rfl | rfl | rfl | rfl | rfl | rfl | rfl : i = 0 ∨ i = 1 ∨ i = 2 ∨ i = 3 ∨ i = 4 ∨ i = 5 ∨ i = 6 ∨ i = 7 ∨ i = 8 ∨ i = 9 ∨ i = 10 ∨ i = 11 := by omega
    · exact step_small rfl 1 (by omega) rfl rfl
    · exact step_el rfl 84 7 rfl Go.Proofs.YtliahigljoeeoaaGreatDoor.u50 i50 (by kernel_rfl) _ _ rfl _ E7 rfl
    · exact step_add rfl 26 27 0 1 _ _ rfl (by kernel_rfl) (by kernel_rfl) rfl rfl rfl
    · exact step_el rfl 84 3 rfl Go.Proofs.YtliahigljoeeoaaGreatDoor.u50 i50 (by kernel_rfl) _ _ rfl _ E3' rfl
    · exact step_inv rfl 29 3 _ rfl (by kernel_rfl) rfl rfl
    · exact step_mul rfl 28 30 2 4 _ _ rfl (by kernel_rfl) (by kernel_rfl) rfl rfl rfl
    · exact step_root rfl 31 5 _ rfl (by kernel_rfl) rfl rfl
    · exact step_move rfl 32 6 (by exact Or.inl rfl) (by kernel_rfl) rfl
    · exact step_ext0 rfl 25 7 _ rfl (by kernel_rfl) rfl rfl
    · exact step_ext1 rfl 25 7 _ rfl (by kernel_rfl) rfl rfl
    · exact step_new16 rfl rfl rfl
    · exact step_move rfl 33 8 (by exact Or.inr rfl) (by kernel_rfl) rfl
  intro vs4 q9 W4 v9 h9 n4 E9 T9 hF
  obtain ⟨_, v8⟩ := hF 11 8 (by kernel_rfl)
  clear hF
  have mn4 := n4.size
  replace E3' := E3'.up n4
  replace E5 := E5.up n4
  replace E7 := E7.up n4
  replace TR := there_up (by omega) TR n4
  replace N := nxt N n4
  have y9 := E9.lt
  have y3 := E3'.lt
  have r5 : q5 ≠ q9 := by omega
  clear n4
  change vs4 8 = .bool (rootB _) at v8
  simp only [puts, v9, v8, Act.put, List.setIfInBounds_toArray, List.set_cons_succ, List.set_cons_zero]
  clear v9 v8
  cases hA : rootB (sqA) with
  | true =>
    have HS : Hid (smP k = (plX (tmP (fill (dig (inF k)) 32) ptA.1 ptA.2), plY (tmP (fill (dig (inF k)) 32) ptA.1 ptA.2))) := by show _ = _; unfold smP; rw [if_pos hA]
    clear hA
    go_upto_region 9 with fail
    refine region_putP 12 11 2 61 _ (fun i => [Fact.eq (.int .i64 k), RN W4 (fun xs => xs = inF k), RN W4 (fun xs => xs = fill (dig (inF k)) 32), EL (rootV (sqA)), RN W4 (fun xs => xs = fill (byt ((rootV (sqA)) % PP)) 32), EL (rootV (sqA)), EL (rootV ((0) - (1))), EL ((rootV (sqA)) * (rootV ((0) - (1)))), RN W4 (fun xs => xs = fill (byt (((rootV (sqA)) * (rootV ((0) - (1)))) % PP)) 32), PT W4 (fun xs ys => xs = fill (byt ((rootV (sqA)) % PP)) 32 ∧ ys = fill (byt (((rootV (sqA)) * (rootV ((0) - (1)))) % PP)) 32), E3F (tmP (fill (dig (inF k)) 32) ptA.1 ptA.2), PT W4 (fun xs ys => xs = plX (tmP (fill (dig (inF k)) 32) ptA.1 ptA.2) ∧ ys = plY (tmP (fill (dig (inF k)) 32) ptA.1 ptA.2))].getD i Fact.no) (fun xs ys => xs = plX (tmP (fill (dig (inF k)) 32) ptA.1 ptA.2) ∧ ys = plY (tmP (fill (dig (inF k)) 32) ptA.1 ptA.2)) _ (by kernel_rfl) rfl rfl rfl (by kernel_rfl) rfl TR (by kernel_rfl) rfl ?_ ?_
    · intro i hi
      obtain rfl | rfl | rfl | rfl | rfl | rfl | rfl | rfl | rfl | rfl | rfl | rfl : i = 0 ∨ i = 1 ∨ i = 2 ∨ i = 3 ∨ i = 4 ∨ i = 5 ∨ i = 6 ∨ i = 7 ∨ i = 8 ∨ i = 9 ∨ i = 10 ∨ i = 11 := by omega
      · exact step_mv0 rfl 0 (by kernel_rfl) (by kernel_rfl) rfl rfl
      · exact step_intV rfl 50 0 k ⟨k0, by omega⟩ rfl (by kernel_rfl) rfl rfl
      · exact step_litV rfl 51 1 rfl (by kernel_rfl) (inF_byt k0 (by omega)) rfl rfl
      · exact step_el rfl 84 9 rfl Go.Proofs.YtliahigljoeeoaaGreatDoor.u50 i50 (by kernel_rfl) _ _ rfl _ E9 rfl
      · exact step_bytes rfl 53 3 _ rfl (by kernel_rfl) rfl rfl
      · exact step_el rfl 84 9 rfl Go.Proofs.YtliahigljoeeoaaGreatDoor.u50 i50 (by kernel_rfl) _ _ rfl _ E9 rfl
      · exact step_el rfl 84 5 rfl Go.Proofs.YtliahigljoeeoaaGreatDoor.u50 i50 (by kernel_rfl) _ _ rfl _ E5 rfl
      · exact step_mul rfl 55 56 5 6 _ _ rfl (by kernel_rfl) (by kernel_rfl) rfl rfl rfl
      · exact step_bytes rfl 57 7 _ rfl (by kernel_rfl) rfl rfl
      · exact step_bp rfl 54 58 4 8 _ _ rfl (by kernel_rfl) (by kernel_rfl) rfl rfl rfl
      · exact step_timesV rfl 52 59 2 9 rfl (by kernel_rfl) (by kernel_rfl) ⟨dig_bytes_5 (inF_byt k0 (by omega)).1 32, by rw [fill_len]; omega⟩ ptA_ok rfl rfl rfl
      · exact step_plainV rfl 60 10 rfl (by kernel_rfl) rfl rfl
    rintro vs9 W W' xs ys a a' c c' g g' n bq rg o1 o2 l1 l2 ⟨rfl, rfl⟩ nb
    have NS := nb w w.heap.size (nxt N n) (by omega)
    simp only [puts, Act.put, List.setIfInBounds_toArray, List.set_cons_succ, List.set_cons_zero]
    have z1 := N.size
    clear N n bq nb TR
    go_wp2
    obtain ⟨fs, hfs⟩ := uP
    exact bodyPost_ret (v := .agg #[_, _]) (results_cell_mid Tryz.results153 _ _ w.heap.size _ _ rfl rg hfs rfl iP) rfl ⟨by rw [HS.out]; exact ⟨a, a', c, c', g, g', rfl, o1, o2, by omega, by omega⟩, NS⟩
  | false =>
    have HA := hide hA
    clear hA
    go_upto_region 6 with fail
    refine region_put16F 11 9 9 46 _ (fun i => [EL 1, EL (rootV ((1) + (dE))), EL ((1) - (rootV ((1) + (dE)))), EL (dE), EL (iv (dE)), EL (sqB), RT (sqB), RT (sqB), Fact.eq (.bool (rootB (sqB))), EL (rootV (sqB)), Fact.eq (.bool (rootB (sqB)))].getD i Fact.no) (rootV (sqB)) _ (by kernel_rfl) rfl rfl rfl (by kernel_rfl) rfl T9 (by kernel_rfl) rfl ?_ ?_
    · intro i hi
      obtain rfl | rfl | rfl | rfl | rfl | rfl | rfl | rfl | rfl | rfl | rfl : i = 0 ∨ i = 1 ∨ i = 2 ∨ i = 3 ∨ i = 4 ∨ i = 5 ∨ i = 6 ∨ i = 7 ∨ i = 8 ∨ i = 9 ∨ i = 10 := by omega
      · exact step_small rfl 1 (by omega) rfl rfl
      · exact step_el rfl 84 7 rfl Go.Proofs.YtliahigljoeeoaaGreatDoor.u50 i50 (by kernel_rfl) _ _ rfl _ E7 rfl
      · exact step_sub rfl 38 39 0 1 _ _ rfl (by kernel_rfl) (by kernel_rfl) rfl rfl rfl
      · exact step_el rfl 84 3 rfl Go.Proofs.YtliahigljoeeoaaGreatDoor.u50 i50 (by kernel_rfl) _ _ rfl _ E3' rfl
      · exact step_inv rfl 41 3 _ rfl (by kernel_rfl) rfl rfl
      · exact step_mul rfl 40 42 2 4 _ _ rfl (by kernel_rfl) (by kernel_rfl) rfl rfl rfl
      · exact step_root rfl 43 5 _ rfl (by kernel_rfl) rfl rfl
      · exact step_move rfl 44 6 (by exact Or.inl rfl) (by kernel_rfl) rfl
      · exact step_ext0 rfl 37 7 _ rfl (by kernel_rfl) rfl rfl
      · exact step_ext1 rfl 37 7 _ rfl (by kernel_rfl) rfl rfl
      · exact step_move rfl 45 8 (by exact Or.inr rfl) (by kernel_rfl) rfl
    intro vs6 Wa W6 na bq E9n T9n nb hF
    obtain ⟨_, v8⟩ := hF 10 8 (by kernel_rfl)
    clear hF
    replace TR := there_but (by omega) TR bq (by omega)
    replace E5 := E5.but bq r5
    replace N := nb w w.heap.size (nxt N na) (by omega)
    clear bq nb na E9 E7 E3'
    have E9 := E9n
    change vs6 8 = .bool (rootB _) at v8
    simp only [puts, v8, Act.put, List.setIfInBounds_toArray, List.set_cons_succ, List.set_cons_zero]
    clear v8
    cases hB : rootB (sqB) with
    | true =>
      have HS : Hid (smP k = (plX (tmP (fill (dig (inF k)) 32) ptB.1 ptB.2), plY (tmP (fill (dig (inF k)) 32) ptB.1 ptB.2))) := by show _ = _; unfold smP; rw [if_neg (by rw [HA.out]; simp), if_pos hB]
      clear hB HA
      go_upto_region 9 with fail
      refine region_putP 12 11 2 61 _ (fun i => [Fact.eq (.int .i64 k), RN W6 (fun xs => xs = inF k), RN W6 (fun xs => xs = fill (dig (inF k)) 32), EL (rootV (sqB)), RN W6 (fun xs => xs = fill (byt ((rootV (sqB)) % PP)) 32), EL (rootV (sqB)), EL (rootV ((0) - (1))), EL ((rootV (sqB)) * (rootV ((0) - (1)))), RN W6 (fun xs => xs = fill (byt (((rootV (sqB)) * (rootV ((0) - (1)))) % PP)) 32), PT W6 (fun xs ys => xs = fill (byt ((rootV (sqB)) % PP)) 32 ∧ ys = fill (byt (((rootV (sqB)) * (rootV ((0) - (1)))) % PP)) 32), E3F (tmP (fill (dig (inF k)) 32) ptB.1 ptB.2), PT W6 (fun xs ys => xs = plX (tmP (fill (dig (inF k)) 32) ptB.1 ptB.2) ∧ ys = plY (tmP (fill (dig (inF k)) 32) ptB.1 ptB.2))].getD i Fact.no) (fun xs ys => xs = plX (tmP (fill (dig (inF k)) 32) ptB.1 ptB.2) ∧ ys = plY (tmP (fill (dig (inF k)) 32) ptB.1 ptB.2)) _ (by kernel_rfl) rfl rfl rfl (by kernel_rfl) rfl TR (by kernel_rfl) rfl ?_ ?_
      · intro i hi
        obtain rfl | rfl | rfl | rfl | rfl | rfl | rfl | rfl | rfl | rfl | rfl | rfl : i = 0 ∨ i = 1 ∨ i = 2 ∨ i = 3 ∨ i = 4 ∨ i = 5 ∨ i = 6 ∨ i = 7 ∨ i = 8 ∨ i = 9 ∨ i = 10 ∨ i = 11 := by omega
        · exact step_mv0 rfl 0 (by kernel_rfl) (by kernel_rfl) rfl rfl
        · exact step_intV rfl 50 0 k ⟨k0, by omega⟩ rfl (by kernel_rfl) rfl rfl
        · exact step_litV rfl 51 1 rfl (by kernel_rfl) (inF_byt k0 (by omega)) rfl rfl
        · exact step_el rfl 84 9 rfl Go.Proofs.YtliahigljoeeoaaGreatDoor.u50 i50 (by kernel_rfl) _ _ rfl _ E9 rfl
        · exact step_bytes rfl 53 3 _ rfl (by kernel_rfl) rfl rfl
        · exact step_el rfl 84 9 rfl Go.Proofs.YtliahigljoeeoaaGreatDoor.u50 i50 (by kernel_rfl) _ _ rfl _ E9 rfl
        · exact step_el rfl 84 5 rfl Go.Proofs.YtliahigljoeeoaaGreatDoor.u50 i50 (by kernel_rfl) _ _ rfl _ E5 rfl
        · exact step_mul rfl 55 56 5 6 _ _ rfl (by kernel_rfl) (by kernel_rfl) rfl rfl rfl
        · exact step_bytes rfl 57 7 _ rfl (by kernel_rfl) rfl rfl
        · exact step_bp rfl 54 58 4 8 _ _ rfl (by kernel_rfl) (by kernel_rfl) rfl rfl rfl
        · exact step_timesV rfl 52 59 2 9 rfl (by kernel_rfl) (by kernel_rfl) ⟨dig_bytes_5 (inF_byt k0 (by omega)).1 32, by rw [fill_len]; omega⟩ ptB_ok rfl rfl rfl
        · exact step_plainV rfl 60 10 rfl (by kernel_rfl) rfl rfl
      rintro vs9 W W' xs ys a a' c c' g g' n bq rg o1 o2 l1 l2 ⟨rfl, rfl⟩ nb
      have NS := nb w w.heap.size (nxt N n) (by omega)
      simp only [puts, Act.put, List.setIfInBounds_toArray, List.set_cons_succ, List.set_cons_zero]
      have z1 := N.size
      clear N n bq nb TR
      go_wp2
      obtain ⟨fs, hfs⟩ := uP
      exact bodyPost_ret (v := .agg #[_, _]) (results_cell_mid Tryz.results153 _ _ w.heap.size _ _ rfl rg hfs rfl iP) rfl ⟨by rw [HS.out]; exact ⟨a, a', c, c', g, g', rfl, o1, o2, by omega, by omega⟩, NS⟩
    | false =>
      have HS : Hid (smP k = (fill (byt (0 % PP)) 32, fill (byt (1 % PP)) 32)) := by show _ = _; unfold smP; rw [if_neg (by rw [HA.out]; simp), if_neg (by rw [hB]; simp)]
      clear hB HA
      go_upto_region 8 with fail
      refine region_putP 1 0 2 49 _ (fun i => [PT W6 (fun xs ys => xs = fill (byt (0 % PP)) 32 ∧ ys = fill (byt (1 % PP)) 32)].getD i Fact.no) (fun xs ys => xs = fill (byt (0 % PP)) 32 ∧ ys = fill (byt (1 % PP)) 32) _ (by kernel_rfl) rfl rfl rfl (by kernel_rfl) rfl TR (by kernel_rfl) rfl ?_ ?_
      · intro i hi
        obtain rfl : i = 0 := by omega
        exact step_zeroV rfl rfl rfl
      rintro vs9 W W' xs ys a a' c c' g g' n bq rg o1 o2 l1 l2 ⟨rfl, rfl⟩ nb
      have NS := nb w w.heap.size (nxt N n) (by omega)
      simp only [puts, Act.put, List.setIfInBounds_toArray, List.set_cons_succ, List.set_cons_zero]
      have z1 := N.size
      clear N n bq nb TR
      go_wp2
      obtain ⟨fs, hfs⟩ := uP
      exact bodyPost_ret (v := .agg #[_, _]) (results_cell_mid Tryz.results153 _ _ w.heap.size _ _ rfl rg hfs rfl iP) rfl ⟨by rw [HS.out]; exact ⟨a, a', c, c', g, g', rfl, o1, o2, by omega, by omega⟩, NS⟩
end Go.Proofs.YtliahigljoeeoaaGreatDoor

/-
  The model's l2IsZero.
-/
namespace Go.Proofs.YtliahigljoeeoaaGreatDoor
set_option maxRecDepth 100000
open Go Go.RowKit

theorem zero_bytes (V : Int) : bval (fill (byt (V % PP)) 32) = 0 ↔ V % PP = 0 := by
  constructor
  · intro hb
    have h0 := bval_zero_all (bytes_L (V % PP) 32) hb
    have n0 := num_modS V
    have : num (fill (byt (V % PP)) 32) = 0 := by
      unfold num
      rw [fill_len]
      exact lsum_all0 32 (fun j _ => h0 j)
    omega
  · intro h
    rw [h]
    decide +kernel

set_option maxHeartbeats 2000000 in
theorem l2IsZero_any (w : World) (f : Nat → Int) (hf : L16 f) : Calls Tryz.prog 159 #[ag16 f] w fun r w' => r = .returned (.bool (decide (s16 f 16 % PP = 0))) ∧ Below w.heap.size w w' := by
  show Calls Tryz.prog 159 #[.agg (a16 f)] w _
  have n1 : Below w.heap.size w (w.alloc (.cells (a16 f) 84)) := (Below.refl _ _).alloc (Nat.le_refl _) _
  have B1 : Blk (w.alloc (.cells (a16 f) 84)) w.heap.size .i64 (ls16 f) := blk16 w 84 f
  have BY := fun W => l2Bytes_any W f hf
  have Z := zero_bytes (s16 f 16)
  go_enter Tryz.func159, Tryz.ntmps159
  go_upto_region 1 with fail
  generalize w.alloc (.cells (a16 f) 84) = wa at *
  obtain ⟨t, hF⟩ := B1
  go_wp2_with (refine wpList_load_row rfl 84 (.tmp 1) rfl w.heap.size rfl t (a16 f) (0, 0) (.array 16 2) hF Go.Proofs.YtliahigljoeeoaaGreatDoor.u50 rfl (by rw [a16_size]; exact i50) ?_)
  refine (BY wa).mono ?_
  rintro r w2 ⟨⟨a2, c2, g2, rfl, o2, p2, q2, r2⟩, n2⟩
  have N2 := nxt n1 n2
  have TM := hide (l1Trim_any w2 g2 a2 c2 _ o2.rd (bytes_L _ _) p2 q2 (by rw [fill_len]; decide))
  clear BY n1 n2 hF o2 p2 q2 r2
  go_wp2_with fail
  refine TM.out.mono ?_
  rintro r w3 ⟨zs, CZ, lz, ⟨a3, c3, g3, rfl, o3, p3, q3, r3⟩, n3⟩
  have N3 := nxt N2 n3
  clear TM N2 n3 o3 p3 q3 r3
  by_cases hz : zs.length = 0
  · have tz : ((zs.length : Int) == 0) = true := by simp [hz]
    have bz : s16 f 16 % PP = 0 := by
      refine Z.1 ?_
      have : zs = [] := List.eq_nil_of_length_eq_zero hz
      rw [← CZ.2.1, this]
      rfl
    have K := hide (decide_eq_true bz)
    clear hz bz CZ Z
    go_wp2
    go_ret
    exact ⟨by rw [K.out]; rfl, N3⟩
  · have tz : ((zs.length : Int) == 0) = false := by simp; intro h; exact hz (by rw [h]; rfl)
    have bz : ¬ s16 f 16 % PP = 0 := fun h => canon_pos' CZ (by omega) (Z.2 h)
    have K := hide (decide_eq_false bz)
    clear hz bz CZ Z
    go_wp2
    go_ret
    exact ⟨by rw [K.out]; rfl, N3⟩
end Go.Proofs.YtliahigljoeeoaaGreatDoor

/-
  The model's l5Lift.
-/
namespace Go.Proofs.YtliahigljoeeoaaGreatDoor
set_option maxRecDepth 100000
open Go Go.RowKit

theorem wpList_load_want {P : Program} {ops : Array Oper} {rest : List Oper} {op : Oper} {a : Act} {w : World} {Q : Exit → Act → World → Prop} (hw : Region.wanted op (yielded ops a.tmps) = true) (ty : TypeId) (x : Operand) (ho : op.op = .load ty x)
    (b o : Nat) (hx : a.eval x = .pointer (some ⟨b, o, none⟩)) (cs : List Value) (d : TypeDesc) (hc : w.rangeAt b o cs)
    (hu : P.underlying ty = some d) (hd : d.isRow = true) (hi : (P.info? ty).map (·.size) = some cs.length)
    (h : wpList P ops Q rest (a.put op.dst (.agg cs.toArray)) w) : wpList P ops Q (op :: rest) a w :=
  BigFrame.wpList_want hw fun _ hK => wp_load_mid ty x ho b o hx cs d hc hu hd hi (hK _ _ h)
/-- What is lifted: is there a point, and its bytes. -/
def liB (A : Int) (odd : Bool) : Bool := rootB (liftZ A) && !(odd && decide (rootV (liftZ A) % PP = 0))
def liX (A : Int) (odd : Bool) : List Int := if liB A odd = true then fill (byt ((if odd = true then 0 - rootV (liftZ A) else rootV (liftZ A)) % PP)) 32 else []
def liY (A : Int) (odd : Bool) : List Int := if liB A odd = true then fill (byt (A % PP)) 32 else []
def NewLi (B : Nat) (w' : World) (e : Ending) (b : Bool) (xs ys : List Int) : Prop :=
  ∃ (a a' : Option Addr) (c c' g g' : Nat), e = .returned (.tuple #[.bool b, .agg #[.slice a xs.length c, .slice a' ys.length c']]) ∧ Own w' g a .u8 xs ∧ Own w' g' a' .u8 ys ∧ B ≤ g ∧ B ≤ g'
theorem newLi_nil {B : Nat} {w : World} : NewLi B w (.returned (.tuple #[.bool false, .agg #[.slice none 0 0, .slice none 0 0]])) false [] [] := ⟨none, none, 0, 0, B, B, rfl, Own.nil _ _ _ _, Own.nil _ _ _ _, Nat.le_refl _, Nat.le_refl _⟩
section
variable {ops : Array Oper} {Q : Exit → Act → World → Prop} {md : Region.Mode} {F : Nat → Fact} {a0 : Act} {w0 : World} {i : Nat} {o : Oper}
theorem step_konst {P : Program} (hi : ops[i]? = some o) {v : Value} (hop : o.op = .assign (.const v)) (hF : F i = Fact.eq v) : StepOk P md ops Q F a0 w0 i :=
  step_pure hi fun a w _ _ _ => ⟨v, by simp [execOp, hop, Act.eval], by rw [hF]; exact rfl⟩
end

section
variable {ops : Array Oper} {Q : Exit → Act → World → Prop} {a0 : Act} {w : World} {id : Nat} {draw : Bool}
theorem region_putPF (k jV pD pV : Nat) (o : Oper) (F : Nat → Fact) (p : List Int → List Int → Prop) (q : Nat) (hT : textOk .any ops a0.tmps.size k = true) (hk : ops[k]? = some o) (hd : o.dst = none) (hop : o.op = .store 37 (.tmp pD) (.tmp pV))
    (hp : apart ops pD = true) (h0 : a0.tmps.getD pD undef = .pointer (some ⟨q, 0, none⟩)) (ht : w.there q 0 2)
    (wV : writes ops jV pV = true) (FV : F jV = PT w p) (steps : ∀ i, i < k → StepOk Tryz.prog .any ops Q F a0 w i)
    (fin : ∀ (vs : Nat → Value) (W W' : World) (xs ys : List Int) (a a' : Option Addr) (c c' g g' : Nat), Below w.heap.size w W → ButQ q w W' → W'.rangeAt q 0 [.slice a xs.length c, .slice a' ys.length c'] → Own W' g a .u8 xs → Own W' g' a' .u8 ys → w.heap.size ≤ g → w.heap.size ≤ g' → p xs ys → (∀ (w1 : World) (B : Nat), Below B w1 W → B ≤ q → Below B w1 W') → (∀ i d, writes ops i d = true → ∃ Wp, (F i).p (vs d) Wp) → Q .normal (puts vs a0 ops.toList) W') :
    (Code.region id ops draw).wp Tryz.prog Q a0 w := by
  refine region_store k o F (by kernel_rfl) hT hk hd steps fun a W hb hw hF => ?_
  have h2 := hF jV pV wV
  rw [FV] at h2
  obtain ⟨xs, ys, b, b', c, c', g, g', ev, o1, o2, l1, l2, hpp⟩ := h2
  have th := there_up (by omega) ht hw
  refine wp_store_mid 37 (.tmp pD) (.tmp pV) hop q 0 #[.slice b xs.length c, .slice b' ys.length c'] ((based_at hb pD hp).trans h0) ev th iP (by simp [Value.oneCell']) ?_
  obtain ⟨vs, hvs⟩ : ∃ vs : Nat → Value, ∀ d, a.tmps.getD d undef = vs d := ⟨_, fun _ => rfl⟩
  rw [hd]
  show Q .normal a _
  rw [puts_of hT rfl hb vs hvs]
  have lq := there_lt (by omega) ht
  refine fin vs W _ xs ys b b' c c' g g' hw (but_set hw _) (World.rangeAt_setCells_same W q 0 _ th) ?_ ?_ l1 l2 hpp (fun w1 B n hB => below_setCells hB _ _ _ n) (fun i d h => ⟨W, by rw [← hvs]; exact hF i d h⟩)
  · exact fun h0 => o1.of_block (setCells_other (by omega) _ 0 W) h0
  · exact fun h0 => o2.of_block (setCells_other (by omega) _ 0 W) h0
end

set_option maxHeartbeats 2000000 in
theorem l5Lift_any (w : World) (f : Nat → Int) (A : Int) (hf : L16 f ∧ s16 f 16 % PP = A % PP) (odd : Bool) :
    Calls Tryz.prog 106 #[ag16 f, .bool odd] w fun r w' => NewLi w.heap.size w' r (liB A odd) (liX A odd) (liY A odd) ∧ Below w.heap.size w w' := by
  show Calls Tryz.prog 106 #[.agg (a16 f), .bool odd] w _
  have H1 := elt_new5 w 84 hf
  have m1 : Below w.heap.size w (w.alloc (.cells (a16 f) 84)) := (Below.refl _ _).alloc (Nat.le_refl _) _
  have s1 : (w.alloc (.cells (a16 f) 84)).heap.size = w.heap.size + 1 := by simp
  obtain ⟨V1, hV1⟩ : ∃ V, V = a16 f := ⟨_, rfl⟩
  rw [← hV1] at H1 m1 s1 ⊢
  clear hV1 hf
  go_enter Tryz.func106, Tryz.ntmps106
  go_upto_region 1 with fail
  generalize w.alloc (.cells V1 84) = wa at *
  change Code.wp _ _ _ _ (wa.alloc pObj)
  have TR := there_p wa
  have TZ : Two (wa.alloc pObj) wa.heap.size (.slice none 0 0) (.slice none 0 0) := Two.new wa (.slice none 0 0) (.slice none 0 0) 37
  have m2 : Below wa.heap.size wa (wa.alloc pObj) := (Below.refl _ _).alloc (Nat.le_refl _) _
  rw [s1] at TR TZ
  have E2' := H1.up m2
  have N := nxt m1 m2
  clear H1 m1 m2 s1
  generalize wa.alloc pObj = wr at *
  refine region_new16 4 3 2 6 11 _ (fun i => [EL (A), EL (A), EL ((A) * (A)), NB wr 16].getD i Fact.no) ((A) * (A)) (by kernel_rfl) rfl rfl rfl (by kernel_rfl) (by kernel_rfl) rfl rfl ?_ ?_
  · intro i hi
    obtain rfl | rfl | rfl | rfl : i = 0 ∨ i = 1 ∨ i = 2 ∨ i = 3 := by omega
    · exact step_el rfl 84 2 rfl Go.Proofs.YtliahigljoeeoaaGreatDoor.u50 i50 (by kernel_rfl) _ _ rfl _ E2' rfl
    · exact step_el rfl 84 2 rfl Go.Proofs.YtliahigljoeeoaaGreatDoor.u50 i50 (by kernel_rfl) _ _ rfl _ E2' rfl
    · exact step_mul rfl 9 10 0 1 _ _ rfl (by kernel_rfl) (by kernel_rfl) rfl rfl rfl
    · exact step_new16 rfl rfl rfl
  intro vs1 q6 W1 v6 l6 n E6 T6
  have y6 := there_lt (by omega) T6
  replace E2' := E2'.up n
  replace TR := there_up (by omega) TR n
  replace TZ := TZ.up n
  replace N := nxt N n
  clear n T6
  simp only [puts, v6, Act.put, List.setIfInBounds_toArray, List.set_cons_succ, List.set_cons_zero]
  clear v6
  go_upto_region 2 with fail
  refine region_new16F 16 14 13 8 25 _ (fun i => [EL ((A) * (A)), EL 1, EL (((A) * (A)) - (1)), EL dE, EL ((A) * (A)), EL ((dE) * ((A) * (A))), EL 1, EL (((dE) * ((A) * (A))) + (1)), EL (iv (((dE) * ((A) * (A))) + (1))), EL ((((A) * (A)) - (1)) * (iv (((dE) * ((A) * (A))) + (1)))), RT ((((A) * (A)) - (1)) * (iv (((dE) * ((A) * (A))) + (1)))), RT ((((A) * (A)) - (1)) * (iv (((dE) * ((A) * (A))) + (1)))), Fact.eq (.bool (rootB ((((A) * (A)) - (1)) * (iv (((dE) * ((A) * (A))) + (1)))))), EL (rootV ((((A) * (A)) - (1)) * (iv (((dE) * ((A) * (A))) + (1))))), NB W1 16, Fact.eq (.bool (rootB ((((A) * (A)) - (1)) * (iv (((dE) * ((A) * (A))) + (1))))))].getD i Fact.no) (rootV ((((A) * (A)) - (1)) * (iv (((dE) * ((A) * (A))) + (1))))) (by kernel_rfl) rfl rfl rfl (by kernel_rfl) (by kernel_rfl) rfl rfl ?_ ?_
  · intro i hi
    obtain rfl | rfl | rfl | rfl | rfl | rfl | rfl | rfl | rfl | rfl | rfl | rfl | rfl | rfl | rfl | rfl : i = 0 ∨ i = 1 ∨ i = 2 ∨ i = 3 ∨ i = 4 ∨ i = 5 ∨ i = 6 ∨ i = 7 ∨ i = 8 ∨ i = 9 ∨ i = 10 ∨ i = 11 ∨ i = 12 ∨ i = 13 ∨ i = 14 ∨ i = 15 := by omega
    · exact step_el rfl 84 6 rfl Go.Proofs.YtliahigljoeeoaaGreatDoor.u50 i50 (by kernel_rfl) _ _ rfl _ E6 rfl
    · exact step_small rfl 1 (by omega) rfl rfl
    · exact step_sub rfl 13 14 0 1 _ _ rfl (by kernel_rfl) (by kernel_rfl) rfl rfl rfl
    · exact step_d rfl rfl rfl
    · exact step_el rfl 84 6 rfl Go.Proofs.YtliahigljoeeoaaGreatDoor.u50 i50 (by kernel_rfl) _ _ rfl _ E6 rfl
    · exact step_mul rfl 16 17 3 4 _ _ rfl (by kernel_rfl) (by kernel_rfl) rfl rfl rfl
    · exact step_small rfl 1 (by omega) rfl rfl
    · exact step_add rfl 18 19 5 6 _ _ rfl (by kernel_rfl) (by kernel_rfl) rfl rfl rfl
    · exact step_inv rfl 20 7 _ rfl (by kernel_rfl) rfl rfl
    · exact step_mul rfl 15 21 2 8 _ _ rfl (by kernel_rfl) (by kernel_rfl) rfl rfl rfl
    · exact step_root rfl 22 9 _ rfl (by kernel_rfl) rfl rfl
    · exact step_move rfl 23 10 (by exact Or.inl rfl) (by kernel_rfl) rfl
    · exact step_ext0 rfl 12 11 _ rfl (by kernel_rfl) rfl rfl
    · exact step_ext1 rfl 12 11 _ rfl (by kernel_rfl) rfl rfl
    · exact step_new16 rfl rfl rfl
    · exact step_move rfl 24 12 (by exact Or.inr rfl) (by kernel_rfl) rfl
  intro vs2 q8 W2 v8 l8 n E8 T8 hF
  have v7' := hF 15 7 (by kernel_rfl)
  have zr := there_lt (by omega) TR
  replace E2' := E2'.up n
  replace TR := there_up (by omega) TR n
  replace TZ := TZ.up n
  replace N := nxt N n
  obtain ⟨_, v7⟩ := v7'
  clear n hF
  obtain ⟨Z, hZ⟩ : ∃ Z, Z = liftZ A := ⟨_, rfl⟩
  change vs2 7 = .bool (rootB (liftZ A)) at v7
  replace E8 : Elt W2 q8 0 (rootV (liftZ A)) := E8
  rw [← hZ] at v7 E8
  have KB : Hid (liB A odd = (rootB Z && !(odd && decide (rootV Z % PP = 0)))) := by show _ = _; rw [hZ]; rfl
  have KX0 : Hid (liX A odd = if liB A odd = true then fill (byt ((if odd = true then 0 - rootV Z else rootV Z) % PP)) 32 else []) := by show _ = _; rw [hZ]; rfl
  have KY0 : Hid (liY A odd = if liB A odd = true then fill (byt (A % PP)) 32 else []) := by show _ = _; rfl
  clear hZ
  obtain ⟨V, hV⟩ : ∃ V, V = rootV Z := ⟨_, rfl⟩
  rw [← hV] at E8 KB KX0
  obtain ⟨rb, hrb⟩ : ∃ b, b = rootB Z := ⟨_, rfl⟩
  rw [← hrb] at v7 KB
  clear hV hrb
  simp only [puts, v8, v7, Act.put, List.setIfInBounds_toArray, List.set_cons_succ, List.set_cons_zero]
  clear v8 v7
  have gq : w.heap.size + 1 < q8 := by omega
  clear l6 y6 l8 E6 zr
  cases rb with
  | false =>
    have KK : Hid (liB A odd = false) := by show _ = _; rw [KB.out]; rfl
    have KX : Hid (liX A odd = []) := by show _ = _; rw [KX0.out, if_neg (by rw [KK.out]; simp)]
    have KY : Hid (liY A odd = []) := by show _ = _; rw [KY0.out, if_neg (by rw [KK.out]; simp)]
    obtain ⟨y0, y1, f0, f1⟩ := TZ
    clear KB KX0 KY0 E2' E8 T8 TR
    go_wp2
    refine bodyPost_ret (v := .tuple #[.bool false, .agg #[.slice none 0 0, .slice none 0 0]]) (by simp [results, Tryz.results106, go_sem, y0, y1]) rfl ⟨by rw [KK.out, KX.out, KY.out]; exact newLi_nil, ?_⟩
    exact (N.setCell (by show w.heap.size ≤ w.heap.size + 1; omega) _).setCell (by show w.heap.size ≤ w.heap.size + 1; omega) _
  | true =>
    cases odd with
    | false =>
      have KK : Hid (liB A false = true) := by show _ = _; rw [KB.out]; rfl
      have KX : Hid (liX A false = fill (byt ((V) % PP)) 32) := by show _ = _; rw [KX0.out, if_pos KK.out]; rfl
      have KY : Hid (liY A false = fill (byt ((A) % PP)) 32) := by show _ = _; rw [KY0.out, if_pos KK.out]
      clear KB KX0 KY0 TZ
      go_upto_region 7 with fail
      refine region_putPF 6 4 5 44 _ (fun i => [EL (V), RN W2 (fun xs => xs = fill (byt ((V) % PP)) 32), EL (A), RN W2 (fun xs => xs = fill (byt ((A) % PP)) 32), PT W2 (fun xs ys => xs = fill (byt ((V) % PP)) 32 ∧ ys = fill (byt ((A) % PP)) 32), Fact.eq (.bool true)].getD i Fact.no) (fun xs ys => xs = fill (byt ((V) % PP)) 32 ∧ ys = fill (byt ((A) % PP)) 32) _ (by kernel_rfl) rfl rfl rfl (by kernel_rfl) rfl TR (by kernel_rfl) rfl ?_ ?_
      · intro i hi
        obtain rfl | rfl | rfl | rfl | rfl | rfl : i = 0 ∨ i = 1 ∨ i = 2 ∨ i = 3 ∨ i = 4 ∨ i = 5 := by omega
        · exact step_el rfl 84 8 rfl Go.Proofs.YtliahigljoeeoaaGreatDoor.u50 i50 (by kernel_rfl) _ _ rfl _ E8 rfl
        · exact step_bytes rfl 40 0 _ rfl (by kernel_rfl) rfl rfl
        · exact step_el rfl 84 2 rfl Go.Proofs.YtliahigljoeeoaaGreatDoor.u50 i50 (by kernel_rfl) _ _ rfl _ E2' rfl
        · exact step_bytes rfl 42 2 _ rfl (by kernel_rfl) rfl rfl
        · exact step_bp rfl 41 43 1 3 _ _ rfl (by kernel_rfl) (by kernel_rfl) rfl rfl rfl
        · exact step_konst rfl rfl rfl
      rintro vt Wa Wb ps qs b1 b2 d1 d2 h1 h2 n bq rg o1 o2 l1 l2 ⟨rfl, rfl⟩ nb hF
      obtain ⟨_, v4⟩ := hF 5 4 (by kernel_rfl)
      clear hF
      change vt 4 = .bool true at v4
      have NS := nb w w.heap.size (nxt N n) (by omega)
      simp only [puts, v4, Act.put, List.setIfInBounds_toArray, List.set_cons_succ, List.set_cons_zero]
      clear v4
      have z1 := N.size
      clear N n bq nb TR E2' E8
      rw [show fill (byt ((V) % PP)) 32 = liX A false from KX.out.symm] at o1 rg
      rw [show fill (byt ((A) % PP)) 32 = liY A false from KY.out.symm] at o2 rg
      clear KX KY
      go_wp2
      have k0 := rg 0 _ rfl
      have k1 := rg 1 _ rfl
      simp only [Nat.zero_add] at k0 k1
      refine bodyPost_ret (v := .tuple #[.bool true, .agg #[.slice b1 (liX A false).length d1, .slice b2 (liY A false).length d2]]) (by simp [results, Tryz.results106, go_sem, k0, k1]) rfl ⟨?_, NS⟩
      rw [KK.out]
      exact ⟨b1, b2, d1, d2, h1, h2, rfl, o1, o2, by omega, by omega⟩
    | true =>
      obtain ⟨t8, rg8, _, L8, V8⟩ := id E8
      have IZ := hide (fun W => l2IsZero_any W t8 L8)
      simp only [show ∀ f, ag16 f = .agg (a16 f) from fun _ => rfl] at IZ
      have LD := hide rg8
      rw [V8] at IZ
      clear L8 V8 rg8
      by_cases hz : V % PP = 0
      · have KK : Hid (liB A true = false) := by show _ = _; rw [KB.out, decide_eq_true hz]; rfl
        have KX : Hid (liX A true = []) := by show _ = _; rw [KX0.out, if_neg (by rw [KK.out]; simp)]
        have KY : Hid (liY A true = []) := by show _ = _; rw [KY0.out, if_neg (by rw [KK.out]; simp)]
        simp only [decide_eq_true hz] at IZ
        clear KB KX0 KY0 E2' E8 T8 TR hz
        go_wp2_with (refine wpList_load_want rfl 84 (.tmp 8) rfl q8 0 rfl (a16 t8).toList (.array 16 2) LD.out Go.Proofs.YtliahigljoeeoaaGreatDoor.u50 rfl (by rw [a16_len]; exact i50) ?_)
        refine (IZ.out W2).mono ?_
        rintro r W3' ⟨rfl, n⟩
        replace N := nxt N n
        obtain ⟨y0, y1, f0, f1⟩ := TZ.up n
        clear IZ LD n TZ
        go_wp2
        refine bodyPost_ret (v := .tuple #[.bool false, .agg #[.slice none 0 0, .slice none 0 0]]) (by simp [results, Tryz.results106, go_sem, y0, y1]) rfl ⟨by rw [KK.out, KX.out, KY.out]; exact newLi_nil, ?_⟩
        exact (N.setCell (by show w.heap.size ≤ w.heap.size + 1; omega) _).setCell (by show w.heap.size ≤ w.heap.size + 1; omega) _
      · have KK : Hid (liB A true = true) := by show _ = _; rw [KB.out, decide_eq_false hz]; rfl
        have KX : Hid (liX A true = fill (byt (((0) - (V)) % PP)) 32) := by show _ = _; rw [KX0.out, if_pos KK.out]; rfl
        have KY : Hid (liY A true = fill (byt ((A) % PP)) 32) := by show _ = _; rw [KY0.out, if_pos KK.out]
        simp only [decide_eq_false hz] at IZ
        clear KB KX0 KY0 TZ hz
        go_wp2_with (refine wpList_load_want rfl 84 (.tmp 8) rfl q8 0 rfl (a16 t8).toList (.array 16 2) LD.out Go.Proofs.YtliahigljoeeoaaGreatDoor.u50 rfl (by rw [a16_len]; exact i50) ?_)
        refine (IZ.out W2).mono ?_
        rintro r W5 ⟨rfl, n⟩
        replace E2' := E2'.up n
        replace E8 := E8.up n
        replace TR := there_up (by omega) TR n
        replace T8 := there_up (by omega) T8 n
        replace N := nxt N n
        clear IZ LD n
        go_upto_region 6 with fail
        refine region_put16 3 2 8 39 _ (fun i => [EL 0, EL (V), EL ((0) - (V))].getD i Fact.no) ((0) - (V)) _ (by kernel_rfl) rfl rfl rfl (by kernel_rfl) rfl T8 (by kernel_rfl) rfl ?_ ?_
        · intro i hi
          obtain rfl | rfl | rfl : i = 0 ∨ i = 1 ∨ i = 2 := by omega
          · exact step_small rfl 0 (by omega) rfl rfl
          · exact step_el rfl 84 8 rfl Go.Proofs.YtliahigljoeeoaaGreatDoor.u50 i50 (by kernel_rfl) _ _ rfl _ E8 rfl
          · exact step_sub rfl 37 38 0 1 _ _ rfl (by kernel_rfl) (by kernel_rfl) rfl rfl rfl
        intro vs6 Wc W6 n b E8n T8n nb
        replace E2' := E2'.but b (by omega)
        replace TR := there_but (by omega) TR b (by omega)
        replace N := nb w w.heap.size (nxt N n) (by omega)
        clear n b nb T8n T8 E8
        simp only [puts, Act.put, List.setIfInBounds_toArray, List.set_cons_succ, List.set_cons_zero]
        go_upto_region 7 with fail
        refine region_putPF 6 4 5 44 _ (fun i => [EL ((0) - (V)), RN W6 (fun xs => xs = fill (byt (((0) - (V)) % PP)) 32), EL (A), RN W6 (fun xs => xs = fill (byt ((A) % PP)) 32), PT W6 (fun xs ys => xs = fill (byt (((0) - (V)) % PP)) 32 ∧ ys = fill (byt ((A) % PP)) 32), Fact.eq (.bool true)].getD i Fact.no) (fun xs ys => xs = fill (byt (((0) - (V)) % PP)) 32 ∧ ys = fill (byt ((A) % PP)) 32) _ (by kernel_rfl) rfl rfl rfl (by kernel_rfl) rfl TR (by kernel_rfl) rfl ?_ ?_
        · intro i hi
          obtain rfl | rfl | rfl | rfl | rfl | rfl : i = 0 ∨ i = 1 ∨ i = 2 ∨ i = 3 ∨ i = 4 ∨ i = 5 := by omega
          · exact step_el rfl 84 8 rfl Go.Proofs.YtliahigljoeeoaaGreatDoor.u50 i50 (by kernel_rfl) _ _ rfl _ E8n rfl
          · exact step_bytes rfl 40 0 _ rfl (by kernel_rfl) rfl rfl
          · exact step_el rfl 84 2 rfl Go.Proofs.YtliahigljoeeoaaGreatDoor.u50 i50 (by kernel_rfl) _ _ rfl _ E2' rfl
          · exact step_bytes rfl 42 2 _ rfl (by kernel_rfl) rfl rfl
          · exact step_bp rfl 41 43 1 3 _ _ rfl (by kernel_rfl) (by kernel_rfl) rfl rfl rfl
          · exact step_konst rfl rfl rfl
        rintro vt Wa Wb ps qs b1 b2 d1 d2 h1 h2 n bq rg o1 o2 l1 l2 ⟨rfl, rfl⟩ nb hF
        obtain ⟨_, v4⟩ := hF 5 4 (by kernel_rfl)
        clear hF
        change vt 4 = .bool true at v4
        have NS := nb w w.heap.size (nxt N n) (by omega)
        simp only [puts, v4, Act.put, List.setIfInBounds_toArray, List.set_cons_succ, List.set_cons_zero]
        clear v4
        have z1 := N.size
        clear N n bq nb TR E2' E8n
        rw [show fill (byt (((0) - (V)) % PP)) 32 = liX A true from KX.out.symm] at o1 rg
        rw [show fill (byt ((A) % PP)) 32 = liY A true from KY.out.symm] at o2 rg
        clear KX KY
        go_wp2
        have k0 := rg 0 _ rfl
        have k1 := rg 1 _ rfl
        simp only [Nat.zero_add] at k0 k1
        refine bodyPost_ret (v := .tuple #[.bool true, .agg #[.slice b1 (liX A true).length d1, .slice b2 (liY A true).length d2]]) (by simp [results, Tryz.results106, go_sem, k0, k1]) rfl ⟨?_, NS⟩
        rw [KK.out]
        exact ⟨b1, b2, d1, d2, h1, h2, rfl, o1, o2, by omega, by omega⟩
end Go.Proofs.YtliahigljoeeoaaGreatDoor

/-
  The model's PointBase.
-/
namespace Go.Proofs.YtliahigljoeeoaaGreatDoor
set_option maxRecDepth 100000
open Go Go.RowKit

set_option maxHeartbeats 2000000 in
theorem specBase_any (w : World) : Calls Tryz.prog 54 #[] w fun r w' => NewPt w.heap.size w' r (liX (4 * iv 5) false) (liY (4 * iv 5) false) ∧ Below w.heap.size w w' := by
  have TZ : Two (w.alloc pObj) w.heap.size (.slice none 0 0) (.slice none 0 0) := Two.new w (.slice none 0 0) (.slice none 0 0) 37
  have N : Below w.heap.size w (w.alloc pObj) := (Below.refl _ _).alloc (Nat.le_refl _) _
  go_enter Tryz.func54, Tryz.ntmps54
  go_upto_region 1 with fail
  change Code.wp _ _ _ _ (w.alloc pObj)
  generalize w.alloc pObj = wr at *
  go_wp2_with fail
  refine (l2SmallB_any wr 4 (by omega)).mono ?_
  rintro r w1 ⟨t4, rfl, L4, V4, n⟩
  replace TZ := TZ.up n
  replace N := nxt N n
  clear n
  go_wp2_with fail
  refine (l2SmallB_any w1 5 (by omega)).mono ?_
  rintro r w2 ⟨t5, rfl, L5, V5, n⟩
  replace TZ := TZ.up n
  replace N := nxt N n
  clear n
  go_wp2_with fail
  refine (l2Inv_any w2 t5 L5).mono ?_
  rintro r w3 ⟨t6, rfl, L6, V6, n⟩
  replace TZ := TZ.up n
  replace N := nxt N n
  clear n
  go_wp2_with fail
  refine (l2Mul_any w3 t4 t6 L4 L6).mono ?_
  rintro r w4 ⟨t7, rfl, L7, V7, n⟩
  replace TZ := TZ.up n
  replace N := nxt N n
  clear n
  have V : s16 t7 16 % PP = 4 * iv 5 % PP := by
    rw [V7]
    exact mod_mul V4 (V6.trans (pow_mod V5 _))
  have z4 := TZ.lt
  have LF := hide (l5Lift_any w4 t7 (4 * iv 5) ⟨L7, V⟩ false)
  clear V4 V5 V6 V7 V L4 L5 L6 L7
  obtain ⟨X, hX⟩ : ∃ X, X = liX (4 * iv 5) false := ⟨_, rfl⟩
  obtain ⟨Y, hY⟩ : ∃ Y, Y = liY (4 * iv 5) false := ⟨_, rfl⟩
  rw [← hX, ← hY] at LF
  have KX := hide hX
  have KY := hide hY
  clear hX hY
  generalize liB (4 * iv 5) false = bb at *
  go_wp2_with fail
  refine LF.out.mono ?_
  rintro r w5 ⟨⟨a1, a2, c1, c2, g1, g2, rfl, o1, o2, l1, l2⟩, n⟩
  replace TZ := TZ.up n
  have z := N.size
  have zz := TZ.lt
  replace N := nxt N n
  clear n LF
  have TN := Two.new w5 (.slice a1 X.length c1) (.slice a2 Y.length c2) 37
  have m : Below w5.heap.size w5 (w5.alloc (.cells #[.slice a1 X.length c1, .slice a2 Y.length c2] 37)) := (Below.refl _ _).alloc (Nat.le_refl _) _
  go_upto_region 2 with fail
  generalize w5.alloc (.cells #[.slice a1 X.length c1, .slice a2 Y.length c2] 37) = w6 at *
  obtain ⟨p0, p1, _, _⟩ := TN
  obtain ⟨y0, y1, f0, f1⟩ := TZ.up m
  replace N := nxt N m
  replace o1 := o1.up m
  replace o2 := o2.up m
  have O := (Only.setCell w6 w.heap.size 0 (.slice a1 X.length c1)).trans (Only.setCell _ w.heap.size 1 (.slice a2 Y.length c2))
  have o1' := o1.only O (fun _ => by omega)
  have o2' := o2.only O (fun _ => by omega)
  have N' := N.trans (O.below (Nat.le_refl _))
  clear TZ m o1 o2 O N
  go_wp2
  refine bodyPost_ret (v := .agg #[.slice a1 X.length c1, .slice a2 Y.length c2]) (by simp [results, Tryz.results54, go_sem, y0, y1]) rfl ⟨?_, N'⟩
  rw [← KX.out, ← KY.out]
  exact ⟨a1, a2, c1, c2, g1, g2, rfl, o1', o2', by omega, by omega⟩
end Go.Proofs.YtliahigljoeeoaaGreatDoor
