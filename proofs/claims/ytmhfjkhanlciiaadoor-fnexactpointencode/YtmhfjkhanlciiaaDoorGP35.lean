import Derived.Test.YtmhfjkhanlciiaaDoorGP25
import Derived.Test.YtmhfjkhanlciiaaDoorGP26
import Derived.Test.YtmhfjkhanlciiaaDoorGP31
import Derived.Test.YtmhfjkhanlciiaaDoorGP14
import Derived.Test.YtmhfjkhanlciiaaDoorGP12
import Derived.Test.YtmhfjkhanlciiaaDoorGP13
import Derived.Test.YtmhfjkhanlciiaaDoorGP6
import Derived.Test.YtmhfjkhanlciiaaDoorGP2
import Derived.Test.YtmhfjkhanlciiaaDoorGP17
import Derived.BigFrame
import Derived.Test.YtmhfjkhanlciiaaDoorGP33

/-
  The model's PointAdd.
-/
namespace Go.Proofs.YtmhfjkhanlciiaaDoor
set_option maxRecDepth 100000
open Go Go.RowKit

theorem of_up5 {W W' : World} {a : Option Addr} {px : List Int} (h : OfOk W a px) (n : Below W.heap.size W W') : OfOk W' a px := by
  obtain ⟨g, r, b, l⟩ := h
  exact ⟨g, r.up n, b, l⟩
theorem valid_len {px py : List Int} (h : validP px py = true) : px.length = 32 ∧ py.length = 32 := by
  unfold validP at h
  simp only [Bool.and_eq_true] at h
  exact ⟨can_len h.1.1, can_len h.1.2⟩
/-- The coordinates of the sum, as bytes; nothing, if one of the points is none. -/
def paX (px py qx qy : List Int) : List Int := if validP px py = true ∧ validP qx qy = true then fill (byt (addX (num px, num py) (num qx, num qy) % PP)) 32 else []
def paY (px py qx qy : List Int) : List Int := if validP px py = true ∧ validP qx qy = true then fill (byt (addY (num px, num py) (num qx, num qy) % PP)) 32 else []
theorem newPt_nil {B : Nat} {w : World} : NewPt B w (.returned (.agg #[.slice none 0 0, .slice none 0 0])) [] [] := ⟨none, none, 0, 0, B, B, rfl, Own.nil _ _ _ _, Own.nil _ _ _ _, Nat.le_refl _, Nat.le_refl _⟩

set_option maxHeartbeats 2000000 in
theorem specPointAdd_any (w : World) (g1 g2 g3 g4 : Nat) (a1 a2 a3 a4 : Option Addr) (c1 c2 c3 c4 : Nat) (px py qx qy : List Int) (hx : Rd w g1 a1 .u8 px) (hy : Rd w g2 a2 .u8 py) (hu : Rd w g3 a3 .u8 qx) (hv : Rd w g4 a4 .u8 qy) (bx : Byt px) (by' : Byt py) (bu : Byt qx) (bv : Byt qy) :
    Calls Tryd.prog 29 #[.agg #[.slice a1 px.length c1, .slice a2 py.length c2], .agg #[.slice a3 qx.length c3, .slice a4 qy.length c4]] w fun r w' => NewPt w.heap.size w' r (paX px py qx qy) (paY px py qx qy) ∧ Below w.heap.size w w' := by
  have T := two_cells w (.slice a1 px.length c1) (.slice a2 py.length c2) 27
  have T2 := fun W => two_cells W (.slice a3 qx.length c3) (.slice a4 qy.length c4) 27
  have m1 : Below w.heap.size w (w.alloc (.cells #[.slice a1 px.length c1, .slice a2 py.length c2] 27)) := (Below.refl _ _).alloc (Nat.le_refl _) _
  have s1 : (w.alloc (.cells #[.slice a1 px.length c1, .slice a2 py.length c2] 27)).heap.size = w.heap.size + 1 := by simp
  have PV1 := fun W h h' => pointValid_any W g1 g2 a1 a2 c1 c2 px py h h' bx by'
  have PV2 := fun W h h' => pointValid_any W g3 g4 a3 a4 c3 c4 qx qy h h' bu bv
  obtain ⟨CX, CY⟩ := T
  go_enter Tryd.func29, Tryd.ntmps29
  go_upto_region 1 with fail
  generalize w.alloc (.cells #[.slice a1 px.length c1, .slice a2 py.length c2] 27) = wa at *
  have T2' := T2 wa
  have m2 : Below wa.heap.size wa (wa.alloc (.cells #[.slice a3 qx.length c3, .slice a4 qy.length c4] 27)) := (Below.refl _ _).alloc (Nat.le_refl _) _
  have s2 : (wa.alloc (.cells #[.slice a3 qx.length c3, .slice a4 qy.length c4] 27)).heap.size = wa.heap.size + 1 := by simp
  rw [s1] at T2' s2
  obtain ⟨CU, CV⟩ := T2'
  generalize wa.alloc (.cells #[.slice a3 qx.length c3, .slice a4 qy.length c4] 27) = wb at *
  change Code.wp _ _ _ _ (wb.alloc pObj)
  have TR := there_p wb
  have TZ : Two (wb.alloc pObj) wb.heap.size (.slice none 0 0) (.slice none 0 0) := Two.new wb (.slice none 0 0) (.slice none 0 0) 27
  have m3 : Below wb.heap.size wb (wb.alloc pObj) := (Below.refl _ _).alloc (Nat.le_refl _) _
  rw [s2] at TR TZ
  replace CX := ((nxt m2 m3).cell (block_lt_of_cell CX)).trans CX
  replace CY := ((nxt m2 m3).cell (block_lt_of_cell CY)).trans CY
  replace CU := (m3.cell (block_lt_of_cell CU)).trans CU
  replace CV := (m3.cell (block_lt_of_cell CV)).trans CV
  have N := nxt (nxt m1 m2) m3
  have RX := hx.up N
  have RY := hy.up N
  have RU := hu.up N
  have RV := hv.up N
  clear hx hy hu hv T2 m1 m2 m3 s1 s2
  generalize wb.alloc pObj = wr at *
  cases h1 : validP px py with
  | false =>
    have KX : Hid (paX px py qx qy = []) := by show _ = _; unfold paX; rw [if_neg (fun h => by rw [h1] at h; simp at h)]
    have KY : Hid (paY px py qx qy = []) := by show _ = _; unfold paY; rw [if_neg (fun h => by rw [h1] at h; simp at h)]
    simp only [h1] at PV1
    go_wp2_with fail
    refine (PV1 wr RX RY).mono ?_
    rintro e w1 ⟨rfl, n1⟩
    replace N := nxt N n1
    obtain ⟨y0, y1, f0, f1⟩ := TZ.up n1
    clear PV1 PV2 n1 CX CY CU CV RX RY RU RV TR TZ
    go_wp2
    refine bodyPost_ret (v := .agg #[.slice none 0 0, .slice none 0 0]) (by simp [results, Tryd.results29, go_sem, y0, y1]) rfl ⟨by rw [KX.out, KY.out]; exact newPt_nil, ?_⟩
    exact (N.setCell (by show w.heap.size ≤ w.heap.size + 1 + 1; omega) _).setCell (by show w.heap.size ≤ w.heap.size + 1 + 1; omega) _
  | true =>
    simp only [h1] at PV1
    go_wp2_with fail
    refine (PV1 wr RX RY).mono ?_
    rintro e w1 ⟨rfl, n1⟩
    replace CX := (n1.cell (block_lt_of_cell CX)).trans CX
    replace CY := (n1.cell (block_lt_of_cell CY)).trans CY
    replace CU := (n1.cell (block_lt_of_cell CU)).trans CU
    replace CV := (n1.cell (block_lt_of_cell CV)).trans CV
    replace RX := RX.up n1
    replace RY := RY.up n1
    replace RU := RU.up n1
    replace RV := RV.up n1
    replace N := nxt N n1
    replace TR := there_up (by omega) TR n1
    replace TZ := TZ.up n1
    clear PV1 n1
    cases h2 : validP qx qy with
    | false =>
      have KX : Hid (paX px py qx qy = []) := by show _ = _; unfold paX; rw [if_neg (fun h => by rw [h2] at h; simp at h)]
      have KY : Hid (paY px py qx qy = []) := by show _ = _; unfold paY; rw [if_neg (fun h => by rw [h2] at h; simp at h)]
      simp only [h2] at PV2
      go_wp2_with fail
      refine (PV2 w1 RU RV).mono ?_
      rintro e w2 ⟨rfl, n1⟩
      replace N := nxt N n1
      obtain ⟨y0, y1, f0, f1⟩ := TZ.up n1
      clear PV2 n1 CX CY CU CV RX RY RU RV TR TZ
      go_wp2
      refine bodyPost_ret (v := .agg #[.slice none 0 0, .slice none 0 0]) (by simp [results, Tryd.results29, go_sem, y0, y1]) rfl ⟨by rw [KX.out, KY.out]; exact newPt_nil, ?_⟩
      exact (N.setCell (by show w.heap.size ≤ w.heap.size + 1 + 1; omega) _).setCell (by show w.heap.size ≤ w.heap.size + 1 + 1; omega) _
    | true =>
      have KX : Hid (paX px py qx qy = fill (byt (addX (num px, num py) (num qx, num qy) % PP)) 32) := by show _ = _; unfold paX; rw [if_pos ⟨h1, h2⟩]
      have KY : Hid (paY px py qx qy = fill (byt (addY (num px, num py) (num qx, num qy) % PP)) 32) := by show _ = _; unfold paY; rw [if_pos ⟨h1, h2⟩]
      have l1 := hide (valid_len h1)
      have l2 := hide (valid_len h2)
      simp only [h2] at PV2
      go_wp2_with fail
      refine (PV2 w1 RU RV).mono ?_
      rintro e w2 ⟨rfl, n1⟩
      replace CX := (n1.cell (block_lt_of_cell CX)).trans CX
      replace CY := (n1.cell (block_lt_of_cell CY)).trans CY
      replace CU := (n1.cell (block_lt_of_cell CU)).trans CU
      replace CV := (n1.cell (block_lt_of_cell CV)).trans CV
      have OX := hide (of_ok (RX.up n1) bx l1.1)
      have OY := hide (of_ok (RY.up n1) by' l1.2)
      have OU := hide (of_ok (RU.up n1) bu l2.1)
      have OV := hide (of_ok (RV.up n1) bv l2.2)
      replace N := nxt N n1
      replace TR := there_up (by omega) TR n1
      clear PV2 n1 RX RY RU RV TZ h1 h2 l1 l2
      go_upto_region 3 with fail
      refine region_new16 4 3 2 5 23 _ (fun i => [Fact.eq (.pointer (some ⟨w.heap.size, 0, none⟩)), Fact.eq (.slice a1 px.length c1), EL (num px), NB w2 16].getD i Fact.no) (num px) (by kernel_rfl) rfl rfl rfl (by kernel_rfl) (by kernel_rfl) rfl rfl ?_ ?_
      · intro i hi
        obtain rfl | rfl | rfl | rfl : i = 0 ∨ i = 1 ∨ i = 2 ∨ i = 3 := by omega
        · exact step_fld rfl 27 2 0 rfl (by kernel_rfl) _ _ rfl (fxP _) rfl
        · exact step_lds rfl 21 0 rfl (by kernel_rfl) _ _ rfl _ _ _ CX rfl
        · exact step_of rfl 22 1 rfl (by kernel_rfl) OX.out rfl rfl
        · exact step_new16 rfl rfl rfl
      intro qy3 q5 W3' v5 l5 n E5 T5
      replace CX := (n.cell (block_lt_of_cell CX)).trans CX
      replace CY := (n.cell (block_lt_of_cell CY)).trans CY
      replace CU := (n.cell (block_lt_of_cell CU)).trans CU
      replace CV := (n.cell (block_lt_of_cell CV)).trans CV
      replace OX := hide (of_up5 OX.out n)
      replace OY := hide (of_up5 OY.out n)
      replace OU := hide (of_up5 OU.out n)
      replace OV := hide (of_up5 OV.out n)
      replace TR := there_up (by omega) TR n
      replace N := nxt N n
      clear n T5
      simp only [puts, v5, Act.put, List.setIfInBounds_toArray, List.set_cons_succ, List.set_cons_zero]
      clear v5
      go_upto_region 4 with fail
      refine region_new16 4 3 2 6 26 _ (fun i => [Fact.eq (.pointer (some ⟨w.heap.size, 1, none⟩)), Fact.eq (.slice a2 py.length c2), EL (num py), NB W3' 16].getD i Fact.no) (num py) (by kernel_rfl) rfl rfl rfl (by kernel_rfl) (by kernel_rfl) rfl rfl ?_ ?_
      · intro i hi
        obtain rfl | rfl | rfl | rfl : i = 0 ∨ i = 1 ∨ i = 2 ∨ i = 3 := by omega
        · exact step_fld rfl 27 2 1 rfl (by kernel_rfl) _ _ rfl (fyP _) rfl
        · exact step_lds rfl 24 0 rfl (by kernel_rfl) _ _ rfl _ _ _ CY rfl
        · exact step_of rfl 25 1 rfl (by kernel_rfl) OY.out rfl rfl
        · exact step_new16 rfl rfl rfl
      intro qy4 q6 W4' v6 l6 n E6 T6
      replace CX := (n.cell (block_lt_of_cell CX)).trans CX
      replace CY := (n.cell (block_lt_of_cell CY)).trans CY
      replace CU := (n.cell (block_lt_of_cell CU)).trans CU
      replace CV := (n.cell (block_lt_of_cell CV)).trans CV
      replace OX := hide (of_up5 OX.out n)
      replace OY := hide (of_up5 OY.out n)
      replace OU := hide (of_up5 OU.out n)
      replace OV := hide (of_up5 OV.out n)
      replace E5 := E5.up n
      replace TR := there_up (by omega) TR n
      replace N := nxt N n
      clear n T6
      simp only [puts, v6, Act.put, List.setIfInBounds_toArray, List.set_cons_succ, List.set_cons_zero]
      clear v6
      go_upto_region 5 with fail
      refine region_new16 4 3 2 7 29 _ (fun i => [Fact.eq (.pointer (some ⟨(w.heap.size + 1), 0, none⟩)), Fact.eq (.slice a3 qx.length c3), EL (num qx), NB W4' 16].getD i Fact.no) (num qx) (by kernel_rfl) rfl rfl rfl (by kernel_rfl) (by kernel_rfl) rfl rfl ?_ ?_
      · intro i hi
        obtain rfl | rfl | rfl | rfl : i = 0 ∨ i = 1 ∨ i = 2 ∨ i = 3 := by omega
        · exact step_fld rfl 27 3 0 rfl (by kernel_rfl) _ _ rfl (fxP _) rfl
        · exact step_lds rfl 27 0 rfl (by kernel_rfl) _ _ rfl _ _ _ CU rfl
        · exact step_of rfl 28 1 rfl (by kernel_rfl) OU.out rfl rfl
        · exact step_new16 rfl rfl rfl
      intro qy5 q7 W5 v7 l7 n E7 T7
      replace CX := (n.cell (block_lt_of_cell CX)).trans CX
      replace CY := (n.cell (block_lt_of_cell CY)).trans CY
      replace CU := (n.cell (block_lt_of_cell CU)).trans CU
      replace CV := (n.cell (block_lt_of_cell CV)).trans CV
      replace OX := hide (of_up5 OX.out n)
      replace OY := hide (of_up5 OY.out n)
      replace OU := hide (of_up5 OU.out n)
      replace OV := hide (of_up5 OV.out n)
      replace E5 := E5.up n
      replace E6 := E6.up n
      replace TR := there_up (by omega) TR n
      replace N := nxt N n
      clear n T7
      simp only [puts, v7, Act.put, List.setIfInBounds_toArray, List.set_cons_succ, List.set_cons_zero]
      clear v7
      go_upto_region 6 with fail
      refine region_new16 4 3 2 8 32 _ (fun i => [Fact.eq (.pointer (some ⟨(w.heap.size + 1), 1, none⟩)), Fact.eq (.slice a4 qy.length c4), EL (num qy), NB W5 16].getD i Fact.no) (num qy) (by kernel_rfl) rfl rfl rfl (by kernel_rfl) (by kernel_rfl) rfl rfl ?_ ?_
      · intro i hi
        obtain rfl | rfl | rfl | rfl : i = 0 ∨ i = 1 ∨ i = 2 ∨ i = 3 := by omega
        · exact step_fld rfl 27 3 1 rfl (by kernel_rfl) _ _ rfl (fyP _) rfl
        · exact step_lds rfl 30 0 rfl (by kernel_rfl) _ _ rfl _ _ _ CV rfl
        · exact step_of rfl 31 1 rfl (by kernel_rfl) OV.out rfl rfl
        · exact step_new16 rfl rfl rfl
      intro qy6 q8 W6 v8 l8 n E8 T8
      replace CX := (n.cell (block_lt_of_cell CX)).trans CX
      replace CY := (n.cell (block_lt_of_cell CY)).trans CY
      replace CU := (n.cell (block_lt_of_cell CU)).trans CU
      replace CV := (n.cell (block_lt_of_cell CV)).trans CV
      replace OX := hide (of_up5 OX.out n)
      replace OY := hide (of_up5 OY.out n)
      replace OU := hide (of_up5 OU.out n)
      replace OV := hide (of_up5 OV.out n)
      replace E5 := E5.up n
      replace E6 := E6.up n
      replace E7 := E7.up n
      replace TR := there_up (by omega) TR n
      replace N := nxt N n
      clear n T8
      simp only [puts, v8, Act.put, List.setIfInBounds_toArray, List.set_cons_succ, List.set_cons_zero]
      clear v8
      go_upto_region 7 with fail
      refine region_new16 10 9 8 9 41 _ (fun i => [EL dE, EL (num px), EL (num qx), EL ((num px) * (num qx)), EL (num py), EL (num qy), EL ((num py) * (num qy)), EL (((num px) * (num qx)) * ((num py) * (num qy))), EL ((dE) * (((num px) * (num qx)) * ((num py) * (num qy)))), NB W6 16].getD i Fact.no) ((dE) * (((num px) * (num qx)) * ((num py) * (num qy)))) (by kernel_rfl) rfl rfl rfl (by kernel_rfl) (by kernel_rfl) rfl rfl ?_ ?_
      · intro i hi
        obtain rfl | rfl | rfl | rfl | rfl | rfl | rfl | rfl | rfl | rfl : i = 0 ∨ i = 1 ∨ i = 2 ∨ i = 3 ∨ i = 4 ∨ i = 5 ∨ i = 6 ∨ i = 7 ∨ i = 8 ∨ i = 9 := by omega
        · exact step_d rfl rfl rfl
        · exact step_el rfl 51 5 rfl Go.Proofs.YtmhfjkhanlciiaaDoor.u50 i50 (by kernel_rfl) _ _ rfl _ E5 rfl
        · exact step_el rfl 51 7 rfl Go.Proofs.YtmhfjkhanlciiaaDoor.u50 i50 (by kernel_rfl) _ _ rfl _ E7 rfl
        · exact step_mul rfl 34 35 1 2 _ _ rfl (by kernel_rfl) (by kernel_rfl) rfl rfl rfl
        · exact step_el rfl 51 6 rfl Go.Proofs.YtmhfjkhanlciiaaDoor.u50 i50 (by kernel_rfl) _ _ rfl _ E6 rfl
        · exact step_el rfl 51 8 rfl Go.Proofs.YtmhfjkhanlciiaaDoor.u50 i50 (by kernel_rfl) _ _ rfl _ E8 rfl
        · exact step_mul rfl 37 38 4 5 _ _ rfl (by kernel_rfl) (by kernel_rfl) rfl rfl rfl
        · exact step_mul rfl 36 39 3 6 _ _ rfl (by kernel_rfl) (by kernel_rfl) rfl rfl rfl
        · exact step_mul rfl 33 40 0 7 _ _ rfl (by kernel_rfl) (by kernel_rfl) rfl rfl rfl
        · exact step_new16 rfl rfl rfl
      intro qy7 q9 W7 v9 l9 n E9 T9
      replace CX := (n.cell (block_lt_of_cell CX)).trans CX
      replace CY := (n.cell (block_lt_of_cell CY)).trans CY
      replace CU := (n.cell (block_lt_of_cell CU)).trans CU
      replace CV := (n.cell (block_lt_of_cell CV)).trans CV
      replace OX := hide (of_up5 OX.out n)
      replace OY := hide (of_up5 OY.out n)
      replace OU := hide (of_up5 OU.out n)
      replace OV := hide (of_up5 OV.out n)
      replace E5 := E5.up n
      replace E6 := E6.up n
      replace E7 := E7.up n
      replace E8 := E8.up n
      replace TR := there_up (by omega) TR n
      replace N := nxt N n
      clear n T9
      simp only [puts, v9, Act.put, List.setIfInBounds_toArray, List.set_cons_succ, List.set_cons_zero]
      clear v9
      go_upto_region 8 with fail
      refine region_new16 13 12 11 10 53 _ (fun i => [EL (num px), EL (num qy), EL ((num px) * (num qy)), EL (num py), EL (num qx), EL ((num py) * (num qx)), EL (((num px) * (num qy)) + ((num py) * (num qx))), EL 1, EL ((dE) * (((num px) * (num qx)) * ((num py) * (num qy)))), EL ((1) + ((dE) * (((num px) * (num qx)) * ((num py) * (num qy))))), EL (iv ((1) + ((dE) * (((num px) * (num qx)) * ((num py) * (num qy)))))), EL ((((num px) * (num qy)) + ((num py) * (num qx))) * (iv ((1) + ((dE) * (((num px) * (num qx)) * ((num py) * (num qy))))))), NB W7 16].getD i Fact.no) ((((num px) * (num qy)) + ((num py) * (num qx))) * (iv ((1) + ((dE) * (((num px) * (num qx)) * ((num py) * (num qy))))))) (by kernel_rfl) rfl rfl rfl (by kernel_rfl) (by kernel_rfl) rfl rfl ?_ ?_
      · intro i hi
        obtain rfl | rfl | rfl | rfl | rfl | rfl | rfl | rfl | rfl | rfl | rfl | rfl | rfl : i = 0 ∨ i = 1 ∨ i = 2 ∨ i = 3 ∨ i = 4 ∨ i = 5 ∨ i = 6 ∨ i = 7 ∨ i = 8 ∨ i = 9 ∨ i = 10 ∨ i = 11 ∨ i = 12 := by omega
        · exact step_el rfl 51 5 rfl Go.Proofs.YtmhfjkhanlciiaaDoor.u50 i50 (by kernel_rfl) _ _ rfl _ E5 rfl
        · exact step_el rfl 51 8 rfl Go.Proofs.YtmhfjkhanlciiaaDoor.u50 i50 (by kernel_rfl) _ _ rfl _ E8 rfl
        · exact step_mul rfl 42 43 0 1 _ _ rfl (by kernel_rfl) (by kernel_rfl) rfl rfl rfl
        · exact step_el rfl 51 6 rfl Go.Proofs.YtmhfjkhanlciiaaDoor.u50 i50 (by kernel_rfl) _ _ rfl _ E6 rfl
        · exact step_el rfl 51 7 rfl Go.Proofs.YtmhfjkhanlciiaaDoor.u50 i50 (by kernel_rfl) _ _ rfl _ E7 rfl
        · exact step_mul rfl 45 46 3 4 _ _ rfl (by kernel_rfl) (by kernel_rfl) rfl rfl rfl
        · exact step_add rfl 44 47 2 5 _ _ rfl (by kernel_rfl) (by kernel_rfl) rfl rfl rfl
        · exact step_small rfl 1 (by omega) rfl rfl
        · exact step_el rfl 51 9 rfl Go.Proofs.YtmhfjkhanlciiaaDoor.u50 i50 (by kernel_rfl) _ _ rfl _ E9 rfl
        · exact step_add rfl 49 50 7 8 _ _ rfl (by kernel_rfl) (by kernel_rfl) rfl rfl rfl
        · exact step_inv rfl 51 9 _ rfl (by kernel_rfl) rfl rfl
        · exact step_mul rfl 48 52 6 10 _ _ rfl (by kernel_rfl) (by kernel_rfl) rfl rfl rfl
        · exact step_new16 rfl rfl rfl
      intro qy8 q10 W8 v10 l10 n E10 T10
      replace CX := (n.cell (block_lt_of_cell CX)).trans CX
      replace CY := (n.cell (block_lt_of_cell CY)).trans CY
      replace CU := (n.cell (block_lt_of_cell CU)).trans CU
      replace CV := (n.cell (block_lt_of_cell CV)).trans CV
      replace OX := hide (of_up5 OX.out n)
      replace OY := hide (of_up5 OY.out n)
      replace OU := hide (of_up5 OU.out n)
      replace OV := hide (of_up5 OV.out n)
      replace E5 := E5.up n
      replace E6 := E6.up n
      replace E7 := E7.up n
      replace E8 := E8.up n
      replace E9 := E9.up n
      replace TR := there_up (by omega) TR n
      replace N := nxt N n
      clear n T10
      simp only [puts, v10, Act.put, List.setIfInBounds_toArray, List.set_cons_succ, List.set_cons_zero]
      clear v10
      go_upto_region 9 with fail
      refine region_new16 13 12 11 11 65 _ (fun i => [EL (num py), EL (num qy), EL ((num py) * (num qy)), EL (num px), EL (num qx), EL ((num px) * (num qx)), EL (((num py) * (num qy)) + ((num px) * (num qx))), EL 1, EL ((dE) * (((num px) * (num qx)) * ((num py) * (num qy)))), EL ((1) - ((dE) * (((num px) * (num qx)) * ((num py) * (num qy))))), EL (iv ((1) - ((dE) * (((num px) * (num qx)) * ((num py) * (num qy)))))), EL ((((num py) * (num qy)) + ((num px) * (num qx))) * (iv ((1) - ((dE) * (((num px) * (num qx)) * ((num py) * (num qy))))))), NB W8 16].getD i Fact.no) ((((num py) * (num qy)) + ((num px) * (num qx))) * (iv ((1) - ((dE) * (((num px) * (num qx)) * ((num py) * (num qy))))))) (by kernel_rfl) rfl rfl rfl (by kernel_rfl) (by kernel_rfl) rfl rfl ?_ ?_
      · intro i hi
        obtain rfl | rfl | rfl | rfl | rfl | rfl | rfl | rfl | rfl | rfl | rfl | rfl | rfl : i = 0 ∨ i = 1 ∨ i = 2 ∨ i = 3 ∨ i = 4 ∨ i = 5 ∨ i = 6 ∨ i = 7 ∨ i = 8 ∨ i = 9 ∨ i = 10 ∨ i = 11 ∨ i = 12 := by omega
        · exact step_el rfl 51 6 rfl Go.Proofs.YtmhfjkhanlciiaaDoor.u50 i50 (by kernel_rfl) _ _ rfl _ E6 rfl
        · exact step_el rfl 51 8 rfl Go.Proofs.YtmhfjkhanlciiaaDoor.u50 i50 (by kernel_rfl) _ _ rfl _ E8 rfl
        · exact step_mul rfl 54 55 0 1 _ _ rfl (by kernel_rfl) (by kernel_rfl) rfl rfl rfl
        · exact step_el rfl 51 5 rfl Go.Proofs.YtmhfjkhanlciiaaDoor.u50 i50 (by kernel_rfl) _ _ rfl _ E5 rfl
        · exact step_el rfl 51 7 rfl Go.Proofs.YtmhfjkhanlciiaaDoor.u50 i50 (by kernel_rfl) _ _ rfl _ E7 rfl
        · exact step_mul rfl 57 58 3 4 _ _ rfl (by kernel_rfl) (by kernel_rfl) rfl rfl rfl
        · exact step_add rfl 56 59 2 5 _ _ rfl (by kernel_rfl) (by kernel_rfl) rfl rfl rfl
        · exact step_small rfl 1 (by omega) rfl rfl
        · exact step_el rfl 51 9 rfl Go.Proofs.YtmhfjkhanlciiaaDoor.u50 i50 (by kernel_rfl) _ _ rfl _ E9 rfl
        · exact step_sub rfl 61 62 7 8 _ _ rfl (by kernel_rfl) (by kernel_rfl) rfl rfl rfl
        · exact step_inv rfl 63 9 _ rfl (by kernel_rfl) rfl rfl
        · exact step_mul rfl 60 64 6 10 _ _ rfl (by kernel_rfl) (by kernel_rfl) rfl rfl rfl
        · exact step_new16 rfl rfl rfl
      intro qy9 q11 W9 v11 l11 n E11 T11
      replace CX := (n.cell (block_lt_of_cell CX)).trans CX
      replace CY := (n.cell (block_lt_of_cell CY)).trans CY
      replace CU := (n.cell (block_lt_of_cell CU)).trans CU
      replace CV := (n.cell (block_lt_of_cell CV)).trans CV
      replace OX := hide (of_up5 OX.out n)
      replace OY := hide (of_up5 OY.out n)
      replace OU := hide (of_up5 OU.out n)
      replace OV := hide (of_up5 OV.out n)
      replace E5 := E5.up n
      replace E6 := E6.up n
      replace E7 := E7.up n
      replace E8 := E8.up n
      replace E9 := E9.up n
      replace E10 := E10.up n
      replace TR := there_up (by omega) TR n
      replace N := nxt N n
      clear n T11
      simp only [puts, v11, Act.put, List.setIfInBounds_toArray, List.set_cons_succ, List.set_cons_zero]
      clear v11
      go_upto_region 10 with fail
      refine region_putP 5 4 4 70 _ (fun i => [EL ((((num px) * (num qy)) + ((num py) * (num qx))) * (iv ((1) + ((dE) * (((num px) * (num qx)) * ((num py) * (num qy))))))), RN W9 (fun xs => xs = fill (byt (((((num px) * (num qy)) + ((num py) * (num qx))) * (iv ((1) + ((dE) * (((num px) * (num qx)) * ((num py) * (num qy))))))) % PP)) 32), EL ((((num py) * (num qy)) + ((num px) * (num qx))) * (iv ((1) - ((dE) * (((num px) * (num qx)) * ((num py) * (num qy))))))), RN W9 (fun xs => xs = fill (byt (((((num py) * (num qy)) + ((num px) * (num qx))) * (iv ((1) - ((dE) * (((num px) * (num qx)) * ((num py) * (num qy))))))) % PP)) 32), PT W9 (fun xs ys => xs = fill (byt (((((num px) * (num qy)) + ((num py) * (num qx))) * (iv ((1) + ((dE) * (((num px) * (num qx)) * ((num py) * (num qy))))))) % PP)) 32 ∧ ys = fill (byt (((((num py) * (num qy)) + ((num px) * (num qx))) * (iv ((1) - ((dE) * (((num px) * (num qx)) * ((num py) * (num qy))))))) % PP)) 32)].getD i Fact.no) (fun xs ys => xs = fill (byt (((((num px) * (num qy)) + ((num py) * (num qx))) * (iv ((1) + ((dE) * (((num px) * (num qx)) * ((num py) * (num qy))))))) % PP)) 32 ∧ ys = fill (byt (((((num py) * (num qy)) + ((num px) * (num qx))) * (iv ((1) - ((dE) * (((num px) * (num qx)) * ((num py) * (num qy))))))) % PP)) 32) _ (by kernel_rfl) rfl rfl rfl (by kernel_rfl) rfl TR (by kernel_rfl) rfl ?_ ?_
      · intro i hi
        obtain rfl | rfl | rfl | rfl | rfl : i = 0 ∨ i = 1 ∨ i = 2 ∨ i = 3 ∨ i = 4 := by omega
        · exact step_el rfl 51 10 rfl Go.Proofs.YtmhfjkhanlciiaaDoor.u50 i50 (by kernel_rfl) _ _ rfl _ E10 rfl
        · exact step_bytes rfl 66 0 _ rfl (by kernel_rfl) rfl rfl
        · exact step_el rfl 51 11 rfl Go.Proofs.YtmhfjkhanlciiaaDoor.u50 i50 (by kernel_rfl) _ _ rfl _ E11 rfl
        · exact step_bytes rfl 68 2 _ rfl (by kernel_rfl) rfl rfl
        · exact step_bp rfl 67 69 1 3 _ _ rfl (by kernel_rfl) (by kernel_rfl) rfl rfl rfl
      rintro vt Wa Wb ps qs b1 b2 d1 d2 h1 h2 n bq rg o1 o2 l1 l2 ⟨rfl, rfl⟩ nb
      have NS := nb w w.heap.size (nxt N n) (by omega)
      simp only [puts, Act.put, List.setIfInBounds_toArray, List.set_cons_succ, List.set_cons_zero]
      have z1 := N.size
      clear N n bq nb TR CX CY CU CV OX OY OU OV E5 E6 E7 E8 E9 E10 E11
      rw [show fill (byt (((((num px) * (num qy)) + ((num py) * (num qx))) * (iv ((1) + ((dE) * (((num px) * (num qx)) * ((num py) * (num qy))))))) % PP)) 32 = paX px py qx qy from KX.out.symm] at o1 rg
      rw [show fill (byt (((((num py) * (num qy)) + ((num px) * (num qx))) * (iv ((1) - ((dE) * (((num px) * (num qx)) * ((num py) * (num qy))))))) % PP)) 32 = paY px py qx qy from KY.out.symm] at o2 rg
      clear KX KY
      go_wp2
      obtain ⟨fs, hfs⟩ := uP
      exact bodyPost_ret (v := .agg #[_, _]) (results_cell_mid Tryd.results29 _ _ (w.heap.size + 1 + 1) _ _ rfl rg hfs rfl iP) rfl ⟨⟨b1, b2, d1, d2, h1, h2, rfl, o1, o2, by omega, by omega⟩, NS⟩
end Go.Proofs.YtmhfjkhanlciiaaDoor

/-
  The model's l5Small.
-/
namespace Go.Proofs.YtmhfjkhanlciiaaDoor
set_option maxRecDepth 100000
open Go Go.RowKit

/-- A root, as it is answered. -/
def RT (A : Int) : Fact := ⟨fun v _ => ∃ t, v = .tuple #[.bool (rootB A), ag16 t] ∧ L16 t ∧ s16 t 16 % PP = rootV A % PP, fun _ h => h⟩
theorem en_root : enters Tryd.prog 96 = true := by kernel_rfl
section
variable {ops : Array Oper} {Q : Exit → Act → World → Prop} {md : Region.Mode} {F : Nat → Fact} {a0 : Act} {w0 : World} {i : Nat} {o : Oper} {ts : Array TypeId}
theorem step_root (hi : ops[i]? = some o) (p j : Nat) (A : Int) (hop : o.op = .call { callee := .value (.func 96), args := #[.tmp p], argTypes := ts })
    (hj : waits md ops i j p = true) (hFj : F j = EL A) (hFi : F i = RT A) : StepOk Tryd.prog md ops Q F a0 w0 i := by
  refine step_call hi _ _ ts hop en_root fun a w _ _ hF => ?_
  have ea := hF j p hj
  rw [hFj] at ea
  obtain ⟨t, e1, L1, V1⟩ := ea
  show Calls Tryd.prog 96 #[a.tmps.getD p undef] w _
  rw [e1]
  refine (l2RootF_any w t L1 A V1).mono ?_
  rintro r w' ⟨u, rfl, L, V, hn⟩
  rw [hFi]
  exact ⟨_, rfl, hn, u, rfl, L, V⟩
theorem step_ext0 {P : Program} (hi : ops[i]? = some o) (p j : Nat) (A : Int) (hop : o.op = .extract (.tmp p) 0) (hj : waits md ops i j p = true) (hFj : F j = RT A) (hFi : F i = Fact.eq (.bool (rootB A))) : StepOk P md ops Q F a0 w0 i := by
  refine step_pure hi fun a w _ _ hf => ⟨.bool (rootB A), ?_, by rw [hFi]; exact rfl⟩
  have e := hf j p hj
  rw [hFj] at e
  obtain ⟨t, e, _⟩ := e
  have e' : a.eval (.tmp p) = .tuple #[.bool (rootB A), ag16 t] := e
  simp only [execOp, hop, e']
  rfl
theorem step_ext1 {P : Program} (hi : ops[i]? = some o) (p j : Nat) (A : Int) (hop : o.op = .extract (.tmp p) 1) (hj : waits md ops i j p = true) (hFj : F j = RT A) (hFi : F i = EL (rootV A)) : StepOk P md ops Q F a0 w0 i := by
  refine step_pure hi fun a w _ _ hf => ?_
  have e := hf j p hj
  rw [hFj] at e
  obtain ⟨t, e, L, V⟩ := e
  have e' : a.eval (.tmp p) = .tuple #[.bool (rootB A), ag16 t] := e
  refine ⟨ag16 t, ?_, by rw [hFi]; exact ⟨t, rfl, L, V⟩⟩
  simp only [execOp, hop, e']
  rfl
end
section
variable {ops : Array Oper} {Q : Exit → Act → World → Prop} {a0 : Act} {w : World} {id : Nat} {draw : Bool}
theorem region_new16F (k jA jV pA pV : Nat) (o : Oper) (F : Nat → Fact) (A : Int) (hT : textOk .any ops a0.tmps.size k = true) (hk : ops[k]? = some o) (hd : o.dst = none) (hop : o.op = .store 51 (.tmp pA) (.tmp pV))
    (wA : writes ops jA pA = true) (wV : writes ops jV pV = true) (FA : F jA = NB w 16) (FV : F jV = EL A) (steps : ∀ i, i < k → StepOk Tryd.prog .any ops Q F a0 w i)
    (fin : ∀ (vs : Nat → Value) (q : Nat) (W : World), vs pA = .pointer (some ⟨q, 0, none⟩) → w.heap.size ≤ q → Below w.heap.size w W → Elt W q 0 A → W.there q 0 16 → (∀ i d, writes ops i d = true → ∃ Wp, (F i).p (vs d) Wp) → Q .normal (puts vs a0 ops.toList) W) :
    (Code.region id ops draw).wp Tryd.prog Q a0 w := by
  refine region_store k o F (by kernel_rfl) hT hk hd steps fun a W hb hw hF => ?_
  have h1 := hF jA pA wA
  have h2 := hF jV pV wV
  rw [FA] at h1
  rw [FV] at h2
  obtain ⟨_, q, eq, th, hq⟩ := h1
  obtain ⟨t, ev, L, V⟩ := h2
  refine wp_store_mid 51 (.tmp pA) (.tmp pV) hop q 0 (a16 t) eq ev (by rw [a16_size]; exact th) (by rw [a16_size]; exact i50) (a16_one t) ?_
  obtain ⟨vs, hvs⟩ : ∃ vs : Nat → Value, ∀ d, a.tmps.getD d undef = vs d := ⟨_, fun _ => rfl⟩
  rw [hd]
  show Q .normal a _
  rw [puts_of hT rfl hb vs hvs]
  exact fin vs q _ ((hvs pA).symm.trans eq) hq (below_setCells hq _ _ _ hw) (set_elt th L V) (World.there_setCells th _ _ _) (fun i d h => ⟨W, by rw [← hvs]; exact hF i d h⟩)
end
end Go.Proofs.YtmhfjkhanlciiaaDoor

/-
  Numbers told as thirty-two bytes.
-/
namespace Go.Proofs.YtmhfjkhanlciiaaDoor
set_option maxRecDepth 100000
open Go.RowKit

theorem lsum_bytS (v : Int) (h0 : 0 ≤ v) : ∀ n, lsum (byt v) n = v % 256 ^ n
  | 0 => by simp [lsum]
  | n + 1 => by
    have ih := lsum_bytS v h0 n
    have hp := p256_pos n
    rw [lsum, ih, byt, Int.pow_succ]
    have e1 := Int.emod_add_mul_ediv v (256 ^ n)
    have e2 := Int.emod_add_mul_ediv v (256 ^ n * 256)
    rw [← Int.ediv_ediv_of_nonneg (Int.le_of_lt hp)] at e2
    have e3 := Int.emod_add_mul_ediv (v / 256 ^ n) 256
    generalize v / 256 ^ n = q at *
    generalize v % 256 ^ n = r at *
    generalize v % (256 ^ n * 256) = s at *
    generalize (256 : Int) ^ n = p at *
    generalize q / 256 = a at *
    generalize q % 256 = b at *
    subst e3
    have : (b + 256 * a) * p = b * p + 256 * a * p := Int.add_mul _ _ _
    have h1 : p * (b + 256 * a) = b * p + 256 * a * p := by rw [Int.mul_comm, this]
    have h2 : p * 256 * a = 256 * a * p := by rw [Int.mul_assoc, Int.mul_comm]
    omega
theorem num_modS (v : Int) : num (fill (byt (v % PP)) 32) = v % PP := by
  have h0 := Int.emod_nonneg v (show PP ≠ 0 by decide)
  have h1 := Int.emod_lt_of_pos v (show (0 : Int) < PP by decide)
  unfold num
  rw [fill_len, lsum_congr (b := byt (v % PP)) 32 (fun j hj => fill_get _ _ _ hj), lsum_bytS _ h0, Int.emod_eq_of_lt h0 (Int.lt_trans h1 (by decide))]
theorem bytes_L (v : Int) (n : Nat) : Byt (fill (byt v) n) := fun i => by
  rcases Nat.lt_or_ge i n with h | h
  · rw [fill_get _ _ _ h]
    unfold byt
    omega
  · rw [List.getD_eq_getElem?_getD, List.getElem?_eq_none (by rw [fill_len]; omega)]
    simp
theorem bval_zero_all {xs : List Int} (h : Byt xs) (hb : bval xs = 0) : ∀ j, xs.getD j 0 = 0 := by
  intro j
  by_cases hj : j < xs.length
  · have e : dig xs (xs.length - 1 - j) = xs.getD j 0 := by
      unfold dig
      rw [if_pos (by omega), show xs.length - 1 - (xs.length - 1 - j) = j by omega]
    have d : dig xs (xs.length - 1 - j) = dig [] (xs.length - 1 - j) := dig_same (b := []) h (fun i => by simp) (hb.trans rfl) _
    rw [← e, d]
    rfl
  · rw [List.getD_eq_getElem?_getD, List.getElem?_eq_none (by omega)]
    rfl
theorem lsum_all0 {a : Nat → Int} : ∀ n, (∀ j, j < n → a j = 0) → lsum a n = 0
  | 0, _ => rfl
  | n + 1, h => by rw [lsum, lsum_all0 n (fun j hj => h j (by omega)), h n (by omega)]; omega
theorem canon_pos' {zs : List Int} {v : Int} (h : Canon zs v) (hl : 0 < zs.length) : v ≠ 0 := fun e => by
  have := bval_zero_all h.1 (h.2.1.trans e) 0
  exact h.2.2 hl this
end Go.Proofs.YtmhfjkhanlciiaaDoor

/-
  The model's l2IsZero.
-/
namespace Go.Proofs.YtmhfjkhanlciiaaDoor
set_option maxRecDepth 100000
open Go Go.RowKit

theorem zero_bytes (V : Int) : bval (fill (byt (V % PP)) 32) = 0 ↔ V % PP = 0 := by
  constructor
  · intro hb
    have h0 := bval_zero_all (bytes_L (V % PP) 32) hb
    have n0 := num_modS V
    have : num (fill (byt (V % PP)) 32) = 0 := by
      unfold num
      rw [fill_len]
      exact lsum_all0 32 (fun j _ => h0 j)
    omega
  · intro h
    rw [h]
    decide +kernel

set_option maxHeartbeats 2000000 in
theorem l2IsZero_any (w : World) (f : Nat → Int) (hf : L16 f) : Calls Tryd.prog 97 #[ag16 f] w fun r w' => r = .returned (.bool (decide (s16 f 16 % PP = 0))) ∧ Below w.heap.size w w' := by
  show Calls Tryd.prog 97 #[.agg (a16 f)] w _
  have n1 : Below w.heap.size w (w.alloc (.cells (a16 f) 51)) := (Below.refl _ _).alloc (Nat.le_refl _) _
  have B1 : Blk (w.alloc (.cells (a16 f) 51)) w.heap.size .i64 (ls16 f) := blk16 w 51 f
  have BY := fun W => l2Bytes_any W f hf
  have Z := zero_bytes (s16 f 16)
  go_enter Tryd.func97, Tryd.ntmps97
  go_upto_region 1 with fail
  generalize w.alloc (.cells (a16 f) 51) = wa at *
  obtain ⟨t, hF⟩ := B1
  go_wp2_with (refine wpList_load_row rfl 51 (.tmp 1) rfl w.heap.size rfl t (a16 f) (0, 0) (.array 16 2) hF Go.Proofs.YtmhfjkhanlciiaaDoor.u50 rfl (by rw [a16_size]; exact i50) ?_)
  refine (BY wa).mono ?_
  rintro r w2 ⟨⟨a2, c2, g2, rfl, o2, p2, q2, r2⟩, n2⟩
  have N2 := nxt n1 n2
  have TM := hide (l1Trim_any w2 g2 a2 c2 _ o2.rd (bytes_L _ _) p2 q2 (by rw [fill_len]; decide))
  clear BY n1 n2 hF o2 p2 q2 r2
  go_wp2_with fail
  refine TM.out.mono ?_
  rintro r w3 ⟨zs, CZ, lz, ⟨a3, c3, g3, rfl, o3, p3, q3, r3⟩, n3⟩
  have N3 := nxt N2 n3
  clear TM N2 n3 o3 p3 q3 r3
  by_cases hz : zs.length = 0
  · have tz : ((zs.length : Int) == 0) = true := by simp [hz]
    have bz : s16 f 16 % PP = 0 := by
      refine Z.1 ?_
      have : zs = [] := List.eq_nil_of_length_eq_zero hz
      rw [← CZ.2.1, this]
      rfl
    have K := hide (decide_eq_true bz)
    clear hz bz CZ Z
    go_wp2
    go_ret
    exact ⟨by rw [K.out]; rfl, N3⟩
  · have tz : ((zs.length : Int) == 0) = false := by simp; intro h; exact hz (by rw [h]; rfl)
    have bz : ¬ s16 f 16 % PP = 0 := fun h => canon_pos' CZ (by omega) (Z.2 h)
    have K := hide (decide_eq_false bz)
    clear hz bz CZ Z
    go_wp2
    go_ret
    exact ⟨by rw [K.out]; rfl, N3⟩
end Go.Proofs.YtmhfjkhanlciiaaDoor

/-
  The model's l5Lift.
-/
namespace Go.Proofs.YtmhfjkhanlciiaaDoor
set_option maxRecDepth 100000
open Go Go.RowKit

theorem wpList_load_want {P : Program} {ops : Array Oper} {rest : List Oper} {op : Oper} {a : Act} {w : World} {Q : Exit → Act → World → Prop} (hw : Region.wanted op (yielded ops a.tmps) = true) (ty : TypeId) (x : Operand) (ho : op.op = .load ty x)
    (b o : Nat) (hx : a.eval x = .pointer (some ⟨b, o, none⟩)) (cs : List Value) (d : TypeDesc) (hc : w.rangeAt b o cs)
    (hu : P.underlying ty = some d) (hd : d.isRow = true) (hi : (P.info? ty).map (·.size) = some cs.length)
    (h : wpList P ops Q rest (a.put op.dst (.agg cs.toArray)) w) : wpList P ops Q (op :: rest) a w :=
  BigFrame.wpList_want hw fun _ hK => wp_load_mid ty x ho b o hx cs d hc hu hd hi (hK _ _ h)
/-- What is lifted: is there a point, and its bytes. -/
def liB (A : Int) (odd : Bool) : Bool := rootB (liftZ A) && !(odd && decide (rootV (liftZ A) % PP = 0))
def liX (A : Int) (odd : Bool) : List Int := if liB A odd = true then fill (byt ((if odd = true then 0 - rootV (liftZ A) else rootV (liftZ A)) % PP)) 32 else []
def liY (A : Int) (odd : Bool) : List Int := if liB A odd = true then fill (byt (A % PP)) 32 else []
def NewLi (B : Nat) (w' : World) (e : Ending) (b : Bool) (xs ys : List Int) : Prop :=
  ∃ (a a' : Option Addr) (c c' g g' : Nat), e = .returned (.tuple #[.bool b, .agg #[.slice a xs.length c, .slice a' ys.length c']]) ∧ Own w' g a .u8 xs ∧ Own w' g' a' .u8 ys ∧ B ≤ g ∧ B ≤ g'
theorem newLi_nil {B : Nat} {w : World} : NewLi B w (.returned (.tuple #[.bool false, .agg #[.slice none 0 0, .slice none 0 0]])) false [] [] := ⟨none, none, 0, 0, B, B, rfl, Own.nil _ _ _ _, Own.nil _ _ _ _, Nat.le_refl _, Nat.le_refl _⟩
section
variable {ops : Array Oper} {Q : Exit → Act → World → Prop} {md : Region.Mode} {F : Nat → Fact} {a0 : Act} {w0 : World} {i : Nat} {o : Oper}
theorem step_konst {P : Program} (hi : ops[i]? = some o) {v : Value} (hop : o.op = .assign (.const v)) (hF : F i = Fact.eq v) : StepOk P md ops Q F a0 w0 i :=
  step_pure hi fun a w _ _ _ => ⟨v, by simp [execOp, hop, Act.eval], by rw [hF]; exact rfl⟩
end

section
variable {ops : Array Oper} {Q : Exit → Act → World → Prop} {a0 : Act} {w : World} {id : Nat} {draw : Bool}
theorem region_putPF (k jV pD pV : Nat) (o : Oper) (F : Nat → Fact) (p : List Int → List Int → Prop) (q : Nat) (hT : textOk .any ops a0.tmps.size k = true) (hk : ops[k]? = some o) (hd : o.dst = none) (hop : o.op = .store 27 (.tmp pD) (.tmp pV))
    (hp : apart ops pD = true) (h0 : a0.tmps.getD pD undef = .pointer (some ⟨q, 0, none⟩)) (ht : w.there q 0 2)
    (wV : writes ops jV pV = true) (FV : F jV = PT w p) (steps : ∀ i, i < k → StepOk Tryd.prog .any ops Q F a0 w i)
    (fin : ∀ (vs : Nat → Value) (W W' : World) (xs ys : List Int) (a a' : Option Addr) (c c' g g' : Nat), Below w.heap.size w W → ButQ q w W' → W'.rangeAt q 0 [.slice a xs.length c, .slice a' ys.length c'] → Own W' g a .u8 xs → Own W' g' a' .u8 ys → w.heap.size ≤ g → w.heap.size ≤ g' → p xs ys → (∀ (w1 : World) (B : Nat), Below B w1 W → B ≤ q → Below B w1 W') → (∀ i d, writes ops i d = true → ∃ Wp, (F i).p (vs d) Wp) → Q .normal (puts vs a0 ops.toList) W') :
    (Code.region id ops draw).wp Tryd.prog Q a0 w := by
  refine region_store k o F (by kernel_rfl) hT hk hd steps fun a W hb hw hF => ?_
  have h2 := hF jV pV wV
  rw [FV] at h2
  obtain ⟨xs, ys, b, b', c, c', g, g', ev, o1, o2, l1, l2, hpp⟩ := h2
  have th := there_up (by omega) ht hw
  refine wp_store_mid 27 (.tmp pD) (.tmp pV) hop q 0 #[.slice b xs.length c, .slice b' ys.length c'] ((based_at hb pD hp).trans h0) ev th iP (by simp [Value.oneCell']) ?_
  obtain ⟨vs, hvs⟩ : ∃ vs : Nat → Value, ∀ d, a.tmps.getD d undef = vs d := ⟨_, fun _ => rfl⟩
  rw [hd]
  show Q .normal a _
  rw [puts_of hT rfl hb vs hvs]
  have lq := there_lt (by omega) ht
  refine fin vs W _ xs ys b b' c c' g g' hw (but_set hw _) (World.rangeAt_setCells_same W q 0 _ th) ?_ ?_ l1 l2 hpp (fun w1 B n hB => below_setCells hB _ _ _ n) (fun i d h => ⟨W, by rw [← hvs]; exact hF i d h⟩)
  · exact fun h0 => o1.of_block (setCells_other (by omega) _ 0 W) h0
  · exact fun h0 => o2.of_block (setCells_other (by omega) _ 0 W) h0
end

set_option maxHeartbeats 2000000 in
theorem l5Lift_any (w : World) (f : Nat → Int) (A : Int) (hf : L16 f ∧ s16 f 16 % PP = A % PP) (odd : Bool) :
    Calls Tryd.prog 57 #[ag16 f, .bool odd] w fun r w' => NewLi w.heap.size w' r (liB A odd) (liX A odd) (liY A odd) ∧ Below w.heap.size w w' := by
  show Calls Tryd.prog 57 #[.agg (a16 f), .bool odd] w _
  have H1 := elt_new5 w 51 hf
  have m1 : Below w.heap.size w (w.alloc (.cells (a16 f) 51)) := (Below.refl _ _).alloc (Nat.le_refl _) _
  have s1 : (w.alloc (.cells (a16 f) 51)).heap.size = w.heap.size + 1 := by simp
  obtain ⟨V1, hV1⟩ : ∃ V, V = a16 f := ⟨_, rfl⟩
  rw [← hV1] at H1 m1 s1 ⊢
  clear hV1 hf
  go_enter Tryd.func57, Tryd.ntmps57
  go_upto_region 1 with fail
  generalize w.alloc (.cells V1 51) = wa at *
  change Code.wp _ _ _ _ (wa.alloc pObj)
  have TR := there_p wa
  have TZ : Two (wa.alloc pObj) wa.heap.size (.slice none 0 0) (.slice none 0 0) := Two.new wa (.slice none 0 0) (.slice none 0 0) 27
  have m2 : Below wa.heap.size wa (wa.alloc pObj) := (Below.refl _ _).alloc (Nat.le_refl _) _
  rw [s1] at TR TZ
  have E2' := H1.up m2
  have N := nxt m1 m2
  clear H1 m1 m2 s1
  generalize wa.alloc pObj = wr at *
  refine region_new16 4 3 2 6 11 _ (fun i => [EL (A), EL (A), EL ((A) * (A)), NB wr 16].getD i Fact.no) ((A) * (A)) (by kernel_rfl) rfl rfl rfl (by kernel_rfl) (by kernel_rfl) rfl rfl ?_ ?_
  · intro i hi
    obtain rfl | rfl | rfl | rfl : i = 0 ∨ i = 1 ∨ i = 2 ∨ i = 3 := by omega
    · exact step_el rfl 51 2 rfl Go.Proofs.YtmhfjkhanlciiaaDoor.u50 i50 (by kernel_rfl) _ _ rfl _ E2' rfl
    · exact step_el rfl 51 2 rfl Go.Proofs.YtmhfjkhanlciiaaDoor.u50 i50 (by kernel_rfl) _ _ rfl _ E2' rfl
    · exact step_mul rfl 9 10 0 1 _ _ rfl (by kernel_rfl) (by kernel_rfl) rfl rfl rfl
    · exact step_new16 rfl rfl rfl
  intro vs1 q6 W1 v6 l6 n E6 T6
  have y6 := there_lt (by omega) T6
  replace E2' := E2'.up n
  replace TR := there_up (by omega) TR n
  replace TZ := TZ.up n
  replace N := nxt N n
  clear n T6
  simp only [puts, v6, Act.put, List.setIfInBounds_toArray, List.set_cons_succ, List.set_cons_zero]
  clear v6
  go_upto_region 2 with fail
  refine region_new16F 16 14 13 8 25 _ (fun i => [EL ((A) * (A)), EL 1, EL (((A) * (A)) - (1)), EL dE, EL ((A) * (A)), EL ((dE) * ((A) * (A))), EL 1, EL (((dE) * ((A) * (A))) + (1)), EL (iv (((dE) * ((A) * (A))) + (1))), EL ((((A) * (A)) - (1)) * (iv (((dE) * ((A) * (A))) + (1)))), RT ((((A) * (A)) - (1)) * (iv (((dE) * ((A) * (A))) + (1)))), RT ((((A) * (A)) - (1)) * (iv (((dE) * ((A) * (A))) + (1)))), Fact.eq (.bool (rootB ((((A) * (A)) - (1)) * (iv (((dE) * ((A) * (A))) + (1)))))), EL (rootV ((((A) * (A)) - (1)) * (iv (((dE) * ((A) * (A))) + (1))))), NB W1 16, Fact.eq (.bool (rootB ((((A) * (A)) - (1)) * (iv (((dE) * ((A) * (A))) + (1))))))].getD i Fact.no) (rootV ((((A) * (A)) - (1)) * (iv (((dE) * ((A) * (A))) + (1))))) (by kernel_rfl) rfl rfl rfl (by kernel_rfl) (by kernel_rfl) rfl rfl ?_ ?_
  · intro i hi
    obtain rfl | rfl | rfl | rfl | rfl | rfl | rfl | rfl | rfl | rfl | rfl | rfl | rfl | rfl | rfl | rfl : i = 0 ∨ i = 1 ∨ i = 2 ∨ i = 3 ∨ i = 4 ∨ i = 5 ∨ i = 6 ∨ i = 7 ∨ i = 8 ∨ i = 9 ∨ i = 10 ∨ i = 11 ∨ i = 12 ∨ i = 13 ∨ i = 14 ∨ i = 15 := by omega
    · exact step_el rfl 51 6 rfl Go.Proofs.YtmhfjkhanlciiaaDoor.u50 i50 (by kernel_rfl) _ _ rfl _ E6 rfl
    · exact step_small rfl 1 (by omega) rfl rfl
    · exact step_sub rfl 13 14 0 1 _ _ rfl (by kernel_rfl) (by kernel_rfl) rfl rfl rfl
    · exact step_d rfl rfl rfl
    · exact step_el rfl 51 6 rfl Go.Proofs.YtmhfjkhanlciiaaDoor.u50 i50 (by kernel_rfl) _ _ rfl _ E6 rfl
    · exact step_mul rfl 16 17 3 4 _ _ rfl (by kernel_rfl) (by kernel_rfl) rfl rfl rfl
    · exact step_small rfl 1 (by omega) rfl rfl
    · exact step_add rfl 18 19 5 6 _ _ rfl (by kernel_rfl) (by kernel_rfl) rfl rfl rfl
    · exact step_inv rfl 20 7 _ rfl (by kernel_rfl) rfl rfl
    · exact step_mul rfl 15 21 2 8 _ _ rfl (by kernel_rfl) (by kernel_rfl) rfl rfl rfl
    · exact step_root rfl 22 9 _ rfl (by kernel_rfl) rfl rfl
    · exact step_move rfl 23 10 (by exact Or.inl rfl) (by kernel_rfl) rfl
    · exact step_ext0 rfl 12 11 _ rfl (by kernel_rfl) rfl rfl
    · exact step_ext1 rfl 12 11 _ rfl (by kernel_rfl) rfl rfl
    · exact step_new16 rfl rfl rfl
    · exact step_move rfl 24 12 (by exact Or.inr rfl) (by kernel_rfl) rfl
  intro vs2 q8 W2 v8 l8 n E8 T8 hF
  have v7' := hF 15 7 (by kernel_rfl)
  have zr := there_lt (by omega) TR
  replace E2' := E2'.up n
  replace TR := there_up (by omega) TR n
  replace TZ := TZ.up n
  replace N := nxt N n
  obtain ⟨_, v7⟩ := v7'
  clear n hF
  obtain ⟨Z, hZ⟩ : ∃ Z, Z = liftZ A := ⟨_, rfl⟩
  change vs2 7 = .bool (rootB (liftZ A)) at v7
  replace E8 : Elt W2 q8 0 (rootV (liftZ A)) := E8
  rw [← hZ] at v7 E8
  have KB : Hid (liB A odd = (rootB Z && !(odd && decide (rootV Z % PP = 0)))) := by show _ = _; rw [hZ]; rfl
  have KX0 : Hid (liX A odd = if liB A odd = true then fill (byt ((if odd = true then 0 - rootV Z else rootV Z) % PP)) 32 else []) := by show _ = _; rw [hZ]; rfl
  have KY0 : Hid (liY A odd = if liB A odd = true then fill (byt (A % PP)) 32 else []) := by show _ = _; rfl
  clear hZ
  obtain ⟨V, hV⟩ : ∃ V, V = rootV Z := ⟨_, rfl⟩
  rw [← hV] at E8 KB KX0
  obtain ⟨rb, hrb⟩ : ∃ b, b = rootB Z := ⟨_, rfl⟩
  rw [← hrb] at v7 KB
  clear hV hrb
  simp only [puts, v8, v7, Act.put, List.setIfInBounds_toArray, List.set_cons_succ, List.set_cons_zero]
  clear v8 v7
  have gq : w.heap.size + 1 < q8 := by omega
  clear l6 y6 l8 E6 zr
  cases rb with
  | false =>
    have KK : Hid (liB A odd = false) := by show _ = _; rw [KB.out]; rfl
    have KX : Hid (liX A odd = []) := by show _ = _; rw [KX0.out, if_neg (by rw [KK.out]; simp)]
    have KY : Hid (liY A odd = []) := by show _ = _; rw [KY0.out, if_neg (by rw [KK.out]; simp)]
    obtain ⟨y0, y1, f0, f1⟩ := TZ
    clear KB KX0 KY0 E2' E8 T8 TR
    go_wp2
    refine bodyPost_ret (v := .tuple #[.bool false, .agg #[.slice none 0 0, .slice none 0 0]]) (by simp [results, Tryd.results57, go_sem, y0, y1]) rfl ⟨by rw [KK.out, KX.out, KY.out]; exact newLi_nil, ?_⟩
    exact (N.setCell (by show w.heap.size ≤ w.heap.size + 1; omega) _).setCell (by show w.heap.size ≤ w.heap.size + 1; omega) _
  | true =>
    cases odd with
    | false =>
      have KK : Hid (liB A false = true) := by show _ = _; rw [KB.out]; rfl
      have KX : Hid (liX A false = fill (byt ((V) % PP)) 32) := by show _ = _; rw [KX0.out, if_pos KK.out]; rfl
      have KY : Hid (liY A false = fill (byt ((A) % PP)) 32) := by show _ = _; rw [KY0.out, if_pos KK.out]
      clear KB KX0 KY0 TZ
      go_upto_region 7 with fail
      refine region_putPF 6 4 5 44 _ (fun i => [EL (V), RN W2 (fun xs => xs = fill (byt ((V) % PP)) 32), EL (A), RN W2 (fun xs => xs = fill (byt ((A) % PP)) 32), PT W2 (fun xs ys => xs = fill (byt ((V) % PP)) 32 ∧ ys = fill (byt ((A) % PP)) 32), Fact.eq (.bool true)].getD i Fact.no) (fun xs ys => xs = fill (byt ((V) % PP)) 32 ∧ ys = fill (byt ((A) % PP)) 32) _ (by kernel_rfl) rfl rfl rfl (by kernel_rfl) rfl TR (by kernel_rfl) rfl ?_ ?_
      · intro i hi
        obtain rfl | rfl | rfl | rfl | rfl | rfl : i = 0 ∨ i = 1 ∨ i = 2 ∨ i = 3 ∨ i = 4 ∨ i = 5 := by omega
        · exact step_el rfl 51 8 rfl Go.Proofs.YtmhfjkhanlciiaaDoor.u50 i50 (by kernel_rfl) _ _ rfl _ E8 rfl
        · exact step_bytes rfl 40 0 _ rfl (by kernel_rfl) rfl rfl
        · exact step_el rfl 51 2 rfl Go.Proofs.YtmhfjkhanlciiaaDoor.u50 i50 (by kernel_rfl) _ _ rfl _ E2' rfl
        · exact step_bytes rfl 42 2 _ rfl (by kernel_rfl) rfl rfl
        · exact step_bp rfl 41 43 1 3 _ _ rfl (by kernel_rfl) (by kernel_rfl) rfl rfl rfl
        · exact step_konst rfl rfl rfl
      rintro vt Wa Wb ps qs b1 b2 d1 d2 h1 h2 n bq rg o1 o2 l1 l2 ⟨rfl, rfl⟩ nb hF
      obtain ⟨_, v4⟩ := hF 5 4 (by kernel_rfl)
      clear hF
      change vt 4 = .bool true at v4
      have NS := nb w w.heap.size (nxt N n) (by omega)
      simp only [puts, v4, Act.put, List.setIfInBounds_toArray, List.set_cons_succ, List.set_cons_zero]
      clear v4
      have z1 := N.size
      clear N n bq nb TR E2' E8
      rw [show fill (byt ((V) % PP)) 32 = liX A false from KX.out.symm] at o1 rg
      rw [show fill (byt ((A) % PP)) 32 = liY A false from KY.out.symm] at o2 rg
      clear KX KY
      go_wp2
      have k0 := rg 0 _ rfl
      have k1 := rg 1 _ rfl
      simp only [Nat.zero_add] at k0 k1
      refine bodyPost_ret (v := .tuple #[.bool true, .agg #[.slice b1 (liX A false).length d1, .slice b2 (liY A false).length d2]]) (by simp [results, Tryd.results57, go_sem, k0, k1]) rfl ⟨?_, NS⟩
      rw [KK.out]
      exact ⟨b1, b2, d1, d2, h1, h2, rfl, o1, o2, by omega, by omega⟩
    | true =>
      obtain ⟨t8, rg8, _, L8, V8⟩ := id E8
      have IZ := hide (fun W => l2IsZero_any W t8 L8)
      simp only [show ∀ f, ag16 f = .agg (a16 f) from fun _ => rfl] at IZ
      have LD := hide rg8
      rw [V8] at IZ
      clear L8 V8 rg8
      by_cases hz : V % PP = 0
      · have KK : Hid (liB A true = false) := by show _ = _; rw [KB.out, decide_eq_true hz]; rfl
        have KX : Hid (liX A true = []) := by show _ = _; rw [KX0.out, if_neg (by rw [KK.out]; simp)]
        have KY : Hid (liY A true = []) := by show _ = _; rw [KY0.out, if_neg (by rw [KK.out]; simp)]
        simp only [decide_eq_true hz] at IZ
        clear KB KX0 KY0 E2' E8 T8 TR hz
        go_wp2_with (refine wpList_load_want rfl 51 (.tmp 8) rfl q8 0 rfl (a16 t8).toList (.array 16 2) LD.out Go.Proofs.YtmhfjkhanlciiaaDoor.u50 rfl (by rw [a16_len]; exact i50) ?_)
        refine (IZ.out W2).mono ?_
        rintro r W3' ⟨rfl, n⟩
        replace N := nxt N n
        obtain ⟨y0, y1, f0, f1⟩ := TZ.up n
        clear IZ LD n TZ
        go_wp2
        refine bodyPost_ret (v := .tuple #[.bool false, .agg #[.slice none 0 0, .slice none 0 0]]) (by simp [results, Tryd.results57, go_sem, y0, y1]) rfl ⟨by rw [KK.out, KX.out, KY.out]; exact newLi_nil, ?_⟩
        exact (N.setCell (by show w.heap.size ≤ w.heap.size + 1; omega) _).setCell (by show w.heap.size ≤ w.heap.size + 1; omega) _
      · have KK : Hid (liB A true = true) := by show _ = _; rw [KB.out, decide_eq_false hz]; rfl
        have KX : Hid (liX A true = fill (byt (((0) - (V)) % PP)) 32) := by show _ = _; rw [KX0.out, if_pos KK.out]; rfl
        have KY : Hid (liY A true = fill (byt ((A) % PP)) 32) := by show _ = _; rw [KY0.out, if_pos KK.out]
        simp only [decide_eq_false hz] at IZ
        clear KB KX0 KY0 TZ hz
        go_wp2_with (refine wpList_load_want rfl 51 (.tmp 8) rfl q8 0 rfl (a16 t8).toList (.array 16 2) LD.out Go.Proofs.YtmhfjkhanlciiaaDoor.u50 rfl (by rw [a16_len]; exact i50) ?_)
        refine (IZ.out W2).mono ?_
        rintro r W5 ⟨rfl, n⟩
        replace E2' := E2'.up n
        replace E8 := E8.up n
        replace TR := there_up (by omega) TR n
        replace T8 := there_up (by omega) T8 n
        replace N := nxt N n
        clear IZ LD n
        go_upto_region 6 with fail
        refine region_put16 3 2 8 39 _ (fun i => [EL 0, EL (V), EL ((0) - (V))].getD i Fact.no) ((0) - (V)) _ (by kernel_rfl) rfl rfl rfl (by kernel_rfl) rfl T8 (by kernel_rfl) rfl ?_ ?_
        · intro i hi
          obtain rfl | rfl | rfl : i = 0 ∨ i = 1 ∨ i = 2 := by omega
          · exact step_small rfl 0 (by omega) rfl rfl
          · exact step_el rfl 51 8 rfl Go.Proofs.YtmhfjkhanlciiaaDoor.u50 i50 (by kernel_rfl) _ _ rfl _ E8 rfl
          · exact step_sub rfl 37 38 0 1 _ _ rfl (by kernel_rfl) (by kernel_rfl) rfl rfl rfl
        intro vs6 Wc W6 n b E8n T8n nb
        replace E2' := E2'.but b (by omega)
        replace TR := there_but (by omega) TR b (by omega)
        replace N := nb w w.heap.size (nxt N n) (by omega)
        clear n b nb T8n T8 E8
        simp only [puts, Act.put, List.setIfInBounds_toArray, List.set_cons_succ, List.set_cons_zero]
        go_upto_region 7 with fail
        refine region_putPF 6 4 5 44 _ (fun i => [EL ((0) - (V)), RN W6 (fun xs => xs = fill (byt (((0) - (V)) % PP)) 32), EL (A), RN W6 (fun xs => xs = fill (byt ((A) % PP)) 32), PT W6 (fun xs ys => xs = fill (byt (((0) - (V)) % PP)) 32 ∧ ys = fill (byt ((A) % PP)) 32), Fact.eq (.bool true)].getD i Fact.no) (fun xs ys => xs = fill (byt (((0) - (V)) % PP)) 32 ∧ ys = fill (byt ((A) % PP)) 32) _ (by kernel_rfl) rfl rfl rfl (by kernel_rfl) rfl TR (by kernel_rfl) rfl ?_ ?_
        · intro i hi
          obtain rfl | rfl | rfl | rfl | rfl | rfl : i = 0 ∨ i = 1 ∨ i = 2 ∨ i = 3 ∨ i = 4 ∨ i = 5 := by omega
          · exact step_el rfl 51 8 rfl Go.Proofs.YtmhfjkhanlciiaaDoor.u50 i50 (by kernel_rfl) _ _ rfl _ E8n rfl
          · exact step_bytes rfl 40 0 _ rfl (by kernel_rfl) rfl rfl
          · exact step_el rfl 51 2 rfl Go.Proofs.YtmhfjkhanlciiaaDoor.u50 i50 (by kernel_rfl) _ _ rfl _ E2' rfl
          · exact step_bytes rfl 42 2 _ rfl (by kernel_rfl) rfl rfl
          · exact step_bp rfl 41 43 1 3 _ _ rfl (by kernel_rfl) (by kernel_rfl) rfl rfl rfl
          · exact step_konst rfl rfl rfl
        rintro vt Wa Wb ps qs b1 b2 d1 d2 h1 h2 n bq rg o1 o2 l1 l2 ⟨rfl, rfl⟩ nb hF
        obtain ⟨_, v4⟩ := hF 5 4 (by kernel_rfl)
        clear hF
        change vt 4 = .bool true at v4
        have NS := nb w w.heap.size (nxt N n) (by omega)
        simp only [puts, v4, Act.put, List.setIfInBounds_toArray, List.set_cons_succ, List.set_cons_zero]
        clear v4
        have z1 := N.size
        clear N n bq nb TR E2' E8n
        rw [show fill (byt (((0) - (V)) % PP)) 32 = liX A true from KX.out.symm] at o1 rg
        rw [show fill (byt ((A) % PP)) 32 = liY A true from KY.out.symm] at o2 rg
        clear KX KY
        go_wp2
        have k0 := rg 0 _ rfl
        have k1 := rg 1 _ rfl
        simp only [Nat.zero_add] at k0 k1
        refine bodyPost_ret (v := .tuple #[.bool true, .agg #[.slice b1 (liX A true).length d1, .slice b2 (liY A true).length d2]]) (by simp [results, Tryd.results57, go_sem, k0, k1]) rfl ⟨?_, NS⟩
        rw [KK.out]
        exact ⟨b1, b2, d1, d2, h1, h2, rfl, o1, o2, by omega, by omega⟩
end Go.Proofs.YtmhfjkhanlciiaaDoor

/-
  The model's PointBase.
-/
namespace Go.Proofs.YtmhfjkhanlciiaaDoor
set_option maxRecDepth 100000
open Go Go.RowKit

set_option maxHeartbeats 2000000 in
theorem specBase_any (w : World) : Calls Tryd.prog 18 #[] w fun r w' => NewPt w.heap.size w' r (liX (4 * iv 5) false) (liY (4 * iv 5) false) ∧ Below w.heap.size w w' := by
  have TZ : Two (w.alloc pObj) w.heap.size (.slice none 0 0) (.slice none 0 0) := Two.new w (.slice none 0 0) (.slice none 0 0) 27
  have N : Below w.heap.size w (w.alloc pObj) := (Below.refl _ _).alloc (Nat.le_refl _) _
  go_enter Tryd.func18, Tryd.ntmps18
  go_upto_region 1 with fail
  change Code.wp _ _ _ _ (w.alloc pObj)
  generalize w.alloc pObj = wr at *
  go_wp2_with fail
  refine (l2SmallB_any wr 4 (by omega)).mono ?_
  rintro r w1 ⟨t4, rfl, L4, V4, n⟩
  replace TZ := TZ.up n
  replace N := nxt N n
  clear n
  go_wp2_with fail
  refine (l2SmallB_any w1 5 (by omega)).mono ?_
  rintro r w2 ⟨t5, rfl, L5, V5, n⟩
  replace TZ := TZ.up n
  replace N := nxt N n
  clear n
  go_wp2_with fail
  refine (l2Inv_any w2 t5 L5).mono ?_
  rintro r w3 ⟨t6, rfl, L6, V6, n⟩
  replace TZ := TZ.up n
  replace N := nxt N n
  clear n
  go_wp2_with fail
  refine (l2Mul_any w3 t4 t6 L4 L6).mono ?_
  rintro r w4 ⟨t7, rfl, L7, V7, n⟩
  replace TZ := TZ.up n
  replace N := nxt N n
  clear n
  have V : s16 t7 16 % PP = 4 * iv 5 % PP := by
    rw [V7]
    exact mod_mul V4 (V6.trans (pow_mod V5 _))
  have z4 := TZ.lt
  have LF := hide (l5Lift_any w4 t7 (4 * iv 5) ⟨L7, V⟩ false)
  clear V4 V5 V6 V7 V L4 L5 L6 L7
  obtain ⟨X, hX⟩ : ∃ X, X = liX (4 * iv 5) false := ⟨_, rfl⟩
  obtain ⟨Y, hY⟩ : ∃ Y, Y = liY (4 * iv 5) false := ⟨_, rfl⟩
  rw [← hX, ← hY] at LF
  have KX := hide hX
  have KY := hide hY
  clear hX hY
  generalize liB (4 * iv 5) false = bb at *
  go_wp2_with fail
  refine LF.out.mono ?_
  rintro r w5 ⟨⟨a1, a2, c1, c2, g1, g2, rfl, o1, o2, l1, l2⟩, n⟩
  replace TZ := TZ.up n
  have z := N.size
  have zz := TZ.lt
  replace N := nxt N n
  clear n LF
  have TN := Two.new w5 (.slice a1 X.length c1) (.slice a2 Y.length c2) 27
  have m : Below w5.heap.size w5 (w5.alloc (.cells #[.slice a1 X.length c1, .slice a2 Y.length c2] 27)) := (Below.refl _ _).alloc (Nat.le_refl _) _
  go_upto_region 2 with fail
  generalize w5.alloc (.cells #[.slice a1 X.length c1, .slice a2 Y.length c2] 27) = w6 at *
  obtain ⟨p0, p1, _, _⟩ := TN
  obtain ⟨y0, y1, f0, f1⟩ := TZ.up m
  replace N := nxt N m
  replace o1 := o1.up m
  replace o2 := o2.up m
  have O := (Only.setCell w6 w.heap.size 0 (.slice a1 X.length c1)).trans (Only.setCell _ w.heap.size 1 (.slice a2 Y.length c2))
  have o1' := o1.only O (fun _ => by omega)
  have o2' := o2.only O (fun _ => by omega)
  have N' := N.trans (O.below (Nat.le_refl _))
  clear TZ m o1 o2 O N
  go_wp2
  refine bodyPost_ret (v := .agg #[.slice a1 X.length c1, .slice a2 Y.length c2]) (by simp [results, Tryd.results18, go_sem, y0, y1]) rfl ⟨?_, N'⟩
  rw [← KX.out, ← KY.out]
  exact ⟨a1, a2, c1, c2, g1, g2, rfl, o1', o2', by omega, by omega⟩
end Go.Proofs.YtmhfjkhanlciiaaDoor

/-
  The model's PointDecode.
-/
namespace Go.Proofs.YtmhfjkhanlciiaaDoor
set_option maxRecDepth 100000
open Go Go.RowKit

def low7s (xs : List Int) : List Int := xs.set 31 (xs.getD 31 0 % 128)
def dcB (xs : List Int) : Bool := decide (xs.length = 32) && (canN (low7s xs) && liB (num (low7s xs)) (decide (128 ≤ xs.getD 31 0)))
def dcX (xs : List Int) : List Int := if dcB xs = true then liX (num (low7s xs)) (decide (128 ≤ xs.getD 31 0)) else []
def dcY (xs : List Int) : List Int := if dcB xs = true then liY (num (low7s xs)) (decide (128 ≤ xs.getD 31 0)) else []
def NewPR (B : Nat) (w' : World) (e : Ending) (b : Bool) (xs ys : List Int) : Prop :=
  ∃ (a a' : Option Addr) (c c' g g' : Nat), e = .returned (.agg #[.bool b, .slice a xs.length c, .slice a' ys.length c']) ∧ Own w' g a .u8 xs ∧ Own w' g' a' .u8 ys ∧ B ≤ g ∧ B ≤ g'
theorem newPR_nil {B : Nat} {w : World} : NewPR B w (.returned (.agg #[.bool false, .slice none 0 0, .slice none 0 0])) false [] [] := ⟨none, none, 0, 0, B, B, rfl, Own.nil _ _ _ _, Own.nil _ _ _ _, Nat.le_refl _, Nat.le_refl _⟩
theorem li_nil {A : Int} {odd : Bool} (h : liB A odd = false) : liX A odd = [] ∧ liY A odd = [] := by
  unfold liX liY
  rw [if_neg (by rw [h]; simp), if_neg (by rw [h]; simp)]
  exact ⟨rfl, rfl⟩
/-- What was lifted, as it is answered. -/
def LiF (w0 : World) (A : Int) (odd : Bool) : Fact := ⟨fun v w => ∃ (a a' : Option Addr) (c c' g g' : Nat), v = .tuple #[.bool (liB A odd), .agg #[.slice a (liX A odd).length c, .slice a' (liY A odd).length c']] ∧ Own w g a .u8 (liX A odd) ∧ Own w g' a' .u8 (liY A odd) ∧ w0.heap.size ≤ g ∧ w0.heap.size ≤ g', fun n h => by
  obtain ⟨a, a', c, c', g, g', e, o, o', q⟩ := h
  exact ⟨a, a', c, c', g, g', e, o.up n, o'.up n, q⟩⟩
/-- A point's block made in the region, still empty. -/
def NBp (w0 : World) : Fact := ⟨fun v w => ∃ q, v = .pointer (some ⟨q, 0, none⟩) ∧ w.heap[q]? = some pObj ∧ w0.heap.size ≤ q, fun {v w w'} n h => by
  obtain ⟨q, e, h, l⟩ := h
  exact ⟨q, e, (n.block q (Array.getElem?_eq_some_iff.1 h).1).trans h, l⟩⟩
theorem pObj_there {W : World} {q : Nat} (h : W.heap[q]? = some pObj) : W.there q 0 2 := fun j hj => by
  constructor
  · unfold World.cell?
    simp only
    rw [h]
    obtain rfl | rfl : j = 0 ∨ j = 1 := by omega
    all_goals rfl
  · unfold World.frozen?
    simp only
    rw [h]
    simp
theorem own_ne {W : World} {q g : Nat} {a : Option Addr} {xs : List Int} (h : W.heap[q]? = some pObj) (o : Own W g a .u8 xs) (h0 : 0 < xs.length) : g ≠ q := fun e => by
  obtain ⟨off, _, hc⟩ := o h0
  have c := (hc 0 h0).1
  subst e
  unfold World.cell? at c
  simp only at c
  rw [h] at c
  rcases (show off = 0 ∨ off = 1 ∨ 2 ≤ off by omega) with r | r | r
  · subst r
    simp at c
  · subst r
    simp at c
  · have : ([Value.slice none 0 0, .slice none 0 0].toArray)[off + 0]? = none := by simp; omega
    simp only [this] at c
    simp at c
theorem en_lift : enters Tryd.prog 57 = true := by kernel_rfl
section
variable {ops : Array Oper} {Q : Exit → Act → World → Prop} {md : Region.Mode} {F : Nat → Fact} {a0 : Act} {w0 : World} {i : Nat} {o : Oper} {ts : Array TypeId}
theorem step_mvp {P : Program} (hi : ops[i]? = some o) (p : Nat) (hop : o.op = .move (.tmp p)) (hp : apart ops p = true) {v : Value} (h0 : a0.tmps.getD p undef = v) (hF : F i = Fact.eq v) : StepOk P md ops Q F a0 w0 i := by
  refine step_pure hi fun b w hb hw _ => ⟨v, ?_, by rw [hF]; exact rfl⟩
  have e := (based_at hb p hp).trans h0
  simp [execOp, hop, e]
theorem step_of32 (hi : ops[i]? = some o) (p j : Nat) {a : Option Addr} {c : Nat} {xs : List Int} (hop : o.op = .call { callee := .value (.func 49), args := #[.tmp p], argTypes := ts })
    (hj : waits md ops i j p = true) (hO : OfOk w0 a xs) (hFj : F j = Fact.eq (.slice a 32 c)) (hFi : F i = EL (num xs)) : StepOk Tryd.prog md ops Q F a0 w0 i := by
  have hl : xs.length = 32 := by obtain ⟨_, _, _, h⟩ := hO; exact h
  exact step_of hi p j hop hj hO (hFj.trans (by rw [hl])) hFi
theorem step_at31 (hi : ops[i]? = some o) (p j : Nat) {g off c : Nat} (hop : o.op = .indexAddr 22 (.tmp p) (.const (.int .i64 31))) (hj : waits md ops i j p = true) (hFj : F j = Fact.eq (.slice (some ⟨g, off, none⟩) 32 c)) (hF : F i = Fact.eq (.pointer (some ⟨g, off + 31, none⟩))) : StepOk Tryd.prog md ops Q F a0 w0 i := by
  refine step_pure hi fun a w hb hw hf => ⟨.pointer (some ⟨g, off + 31, none⟩), ?_, by rw [hF]; exact rfl⟩
  have e := hf j p hj
  rw [hFj] at e
  have e' : a.eval (.tmp p) = .slice (some ⟨g, off, none⟩) 32 c := e
  have e2 : a.eval (.const (.int .i64 31)) = .int .i64 31 := rfl
  simp only [execOp, hop, e', e2]
  go_simp
theorem step_ld8 (hi : ops[i]? = some o) (p j : Nat) {q off : Nat} {v : Value} (hop : o.op = .load 5 (.tmp p)) (hj : waits md ops i j p = true) (hFj : F j = Fact.eq (.pointer (some ⟨q, off, none⟩))) (hc : w0.cell? ⟨q, off, none⟩ = some v) (hF : F i = Fact.eq v) : StepOk Tryd.prog md ops Q F a0 w0 i := by
  refine step_pure hi fun a w _ hw hf => ⟨v, ?_, by rw [hF]; exact rfl⟩
  have e := hf j p hj
  rw [hFj] at e
  have e' : a.eval (.tmp p) = .pointer (some ⟨q, off, none⟩) := e
  have c' : w.cell? ⟨q, off, none⟩ = some v := (hw.cell (block_lt_of_cell hc)).trans hc
  simp only [execOp, hop, e']
  go_simp
theorem step_geq (hi : ops[i]? = some o) (p j : Nat) {v : Int} {b : Bool} (hop : o.op = .binOp .geq 5 (.tmp p) (.const (.int .u8 128)) 5) (hj : waits md ops i j p = true) (hFj : F j = Fact.eq (.int .u8 v)) (hb : b = decide (128 ≤ v)) (hF : F i = Fact.eq (.bool b)) : StepOk Tryd.prog md ops Q F a0 w0 i := by
  refine step_pure hi fun a w _ hw hf => ⟨.bool b, ?_, by rw [hF]; exact rfl⟩
  have e := hf j p hj
  rw [hFj] at e
  have e' : a.eval (.tmp p) = .int .u8 v := e
  have e2 : a.eval (.const (.int .u8 128)) = .int .u8 128 := rfl
  subst hb
  simp only [execOp, hop, e', e2]
  go_simp
theorem step_lift (hi : ops[i]? = some o) (p q j k : Nat) {A : Int} {odd : Bool} (hop : o.op = .call { callee := .value (.func 57), args := #[.tmp p, .tmp q], argTypes := ts })
    (hj : waits md ops i j p = true) (hk : waits md ops i k q = true) (hFj : F j = EL A) (hFk : F k = Fact.eq (.bool odd)) (hFi : F i = LiF w0 A odd) : StepOk Tryd.prog md ops Q F a0 w0 i := by
  refine step_call hi _ _ ts hop en_lift fun a w _ hw hF => ?_
  have ea := hF j p hj
  have eb := hF k q hk
  rw [hFj] at ea
  rw [hFk] at eb
  obtain ⟨t, e1, L1, V1⟩ := ea
  have e2 : a.tmps.getD q undef = .bool odd := eb
  show Calls Tryd.prog 57 #[a.tmps.getD p undef, a.tmps.getD q undef] w _
  rw [e1, e2]
  refine (l5Lift_any w t A ⟨L1, V1⟩ odd).mono ?_
  rintro r w' ⟨⟨b, b', c, c', g, g', rfl, o1, o2, l1, l2⟩, hn⟩
  rw [hFi]
  exact ⟨_, rfl, hn, b, b', c, c', g, g', rfl, o1, o2, Nat.le_trans hw.size l1, Nat.le_trans hw.size l2⟩
theorem step_exL0 {P : Program} (hi : ops[i]? = some o) (p j : Nat) {A : Int} {odd : Bool} (hop : o.op = .extract (.tmp p) 0) (hj : waits md ops i j p = true) (hFj : F j = LiF w0 A odd) (hFi : F i = Fact.eq (.bool (liB A odd))) : StepOk P md ops Q F a0 w0 i := by
  refine step_pure hi fun a w _ _ hf => ⟨.bool (liB A odd), ?_, by rw [hFi]; exact rfl⟩
  have e := hf j p hj
  rw [hFj] at e
  obtain ⟨b, b', c, c', g, g', e, _⟩ := e
  have e' : a.eval (.tmp p) = .tuple #[.bool (liB A odd), .agg #[.slice b (liX A odd).length c, .slice b' (liY A odd).length c']] := e
  simp only [execOp, hop, e']
  rfl
theorem step_exL1 {P : Program} (hi : ops[i]? = some o) (p j : Nat) {A : Int} {odd : Bool} (hop : o.op = .extract (.tmp p) 1) (hj : waits md ops i j p = true) (hFj : F j = LiF w0 A odd) (hFi : F i = PT w0 (fun xs zs => xs = liX A odd ∧ zs = liY A odd)) : StepOk P md ops Q F a0 w0 i := by
  refine step_pure hi fun a w _ _ hf => ?_
  have e := hf j p hj
  rw [hFj] at e
  obtain ⟨b, b', c, c', g, g', e, o1, o2, l1, l2⟩ := e
  have e' : a.eval (.tmp p) = .tuple #[.bool (liB A odd), .agg #[.slice b (liX A odd).length c, .slice b' (liY A odd).length c']] := e
  refine ⟨.agg #[.slice b (liX A odd).length c, .slice b' (liY A odd).length c'], ?_, by rw [hFi]; exact ⟨_, _, b, b', c, c', g, g', rfl, o1, o2, l1, l2, rfl, rfl⟩⟩
  simp only [execOp, hop, e']
  rfl
theorem step_newP (hi : ops[i]? = some o) (hop : o.op = .alloc 27) (hF : F i = NBp w0) : StepOk Tryd.prog md ops Q F a0 w0 i := by
  refine step_grow hi fun a w _ hw _ => ⟨.pointer (some ⟨w.heap.size, 0, none⟩), w.alloc pObj, ?_, (Below.refl _ _).alloc (Nat.le_refl _) _, ?_⟩
  · simp only [execOp, hop]
    kernel_rfl
  · rw [hF]
    exact ⟨_, rfl, heap_alloc_last _ _, hw.size⟩
end
section
variable {ops : Array Oper} {Q : Exit → Act → World → Prop} {a0 : Act} {w : World} {id : Nat} {draw : Bool}
/-- A region that makes a point's block and lays one there. -/
theorem region_newPF (k jA jV pA pV : Nat) (o : Oper) (F : Nat → Fact) (p : List Int → List Int → Prop) (hT : textOk .any ops a0.tmps.size k = true) (hk : ops[k]? = some o) (hd : o.dst = none) (hop : o.op = .store 27 (.tmp pA) (.tmp pV))
    (wA : writes ops jA pA = true) (wV : writes ops jV pV = true) (FA : F jA = NBp w) (FV : F jV = PT w p) (steps : ∀ i, i < k → StepOk Tryd.prog .any ops Q F a0 w i)
    (fin : ∀ (vs : Nat → Value) (q : Nat) (W : World) (xs ys : List Int) (a a' : Option Addr) (c c' g g' : Nat), vs pA = .pointer (some ⟨q, 0, none⟩) → w.heap.size ≤ q → Below w.heap.size w W → W.rangeAt q 0 [.slice a xs.length c, .slice a' ys.length c'] → W.there q 0 2 → Own W g a .u8 xs → Own W g' a' .u8 ys → w.heap.size ≤ g → w.heap.size ≤ g' → p xs ys → (∀ i d, writes ops i d = true → ∃ Wp, (F i).p (vs d) Wp) → Q .normal (puts vs a0 ops.toList) W) :
    (Code.region id ops draw).wp Tryd.prog Q a0 w := by
  refine region_store k o F (by kernel_rfl) hT hk hd steps fun a W hb hw hF => ?_
  have h1 := hF jA pA wA
  have h2 := hF jV pV wV
  rw [FA] at h1
  rw [FV] at h2
  obtain ⟨q, eq, hq, lq⟩ := h1
  obtain ⟨xs, ys, b, b', c, c', g, g', ev, o1, o2, l1, l2, hpp⟩ := h2
  have th := pObj_there hq
  refine wp_store_mid 27 (.tmp pA) (.tmp pV) hop q 0 #[.slice b xs.length c, .slice b' ys.length c'] eq ev th iP (by simp [Value.oneCell']) ?_
  obtain ⟨vs, hvs⟩ : ∃ vs : Nat → Value, ∀ d, a.tmps.getD d undef = vs d := ⟨_, fun _ => rfl⟩
  rw [hd]
  show Q .normal a _
  rw [puts_of hT rfl hb vs hvs]
  refine fin vs q _ xs ys b b' c c' g g' ((hvs pA).symm.trans eq) lq (below_setCells lq _ _ _ hw) (World.rangeAt_setCells_same W q 0 _ th) (World.there_setCells th _ _ _) ?_ ?_ l1 l2 hpp (fun i d h => ⟨W, by rw [← hvs]; exact hF i d h⟩)
  · exact fun h0 => o1.of_block (setCells_other (own_ne hq o1 h0) _ 0 W) h0
  · exact fun h0 => o2.of_block (setCells_other (own_ne hq o2 h0) _ 0 W) h0
end
/-- Three cells that may be written. -/
structure Tri (w : World) (p : Nat) (x y z : Value) : Prop where
  c0 : w.cell? ⟨p, 0, none⟩ = some x
  c1 : w.cell? ⟨p, 1, none⟩ = some y
  c2 : w.cell? ⟨p, 2, none⟩ = some z
  f0 : w.frozen? ⟨p, 0, none⟩ = false
  f1 : w.frozen? ⟨p, 1, none⟩ = false
  f2 : w.frozen? ⟨p, 2, none⟩ = false
theorem Tri.lt {w : World} {p : Nat} {x y z : Value} (h : Tri w p x y z) : p < w.heap.size := block_lt_of_cell h.c0
theorem Tri.up {w w' : World} {p : Nat} {x y z : Value} (h : Tri w p x y z) (n : Below w.heap.size w w') : Tri w' p x y z := by
  have hb := n.block p h.lt
  exact ⟨(World.cell?_of_block (a := ⟨p, 0, none⟩) hb).trans h.c0, (World.cell?_of_block (a := ⟨p, 1, none⟩) hb).trans h.c1, (World.cell?_of_block (a := ⟨p, 2, none⟩) hb).trans h.c2, (World.frozen?_of_block (a := ⟨p, 0, none⟩) hb).trans h.f0, (World.frozen?_of_block (a := ⟨p, 1, none⟩) hb).trans h.f1, (World.frozen?_of_block (a := ⟨p, 2, none⟩) hb).trans h.f2⟩
theorem Tri.new (w : World) (x y z : Value) (t : TypeId) : Tri (w.alloc (.cells #[x, y, z] t)) w.heap.size x y z := by
  have e : (w.alloc (.cells #[x, y, z] t)).heap[w.heap.size]? = some (.cells #[x, y, z] t) := heap_alloc_last _ _
  refine ⟨?_, ?_, ?_, ?_, ?_, ?_⟩
  all_goals first
    | (unfold World.cell?; simp only; rw [e]; rfl)
    | (unfold World.frozen?; simp only; rw [e]; simp)
theorem low7s_len (xs : List Int) : (low7s xs).length = xs.length := by unfold low7s; simp
theorem low7s_byt {xs : List Int} (h : Byt xs) : Byt (low7s xs) := by
  intro j
  unfold low7s
  by_cases e : 31 = j
  · subst e
    by_cases c : 31 < xs.length
    · rw [getD_set_self _ _ _ c]
      have := h 31
      show 0 ≤ xs.getD 31 0 % 128 ∧ xs.getD 31 0 % 128 < 256
      omega
    · rw [List.set_eq_of_length_le (by omega)]
      exact h 31
  · rw [getD_set_ne _ _ _ _ e]
    exact h j
abbrev prObj : Obj := .cells #[.bool false, .slice none 0 0, .slice none 0 0] 44

set_option maxHeartbeats 2000000 in
theorem specDecode_any (w : World) (g : Nat) (a : Option Addr) (c : Nat) (xs : List Int) (hr : Rd w g a .u8 xs) (hb : Byt xs) (hc : a = none → c = 0) :
    Calls Tryd.prog 36 #[.slice a xs.length c] w fun r w' => NewPR w.heap.size w' r (dcB xs) (dcX xs) (dcY xs) ∧ Below w.heap.size w w' := by
  have TZ := Tri.new w (.bool false) (.slice none 0 0) (.slice none 0 0) 44
  have N : Below w.heap.size w (w.alloc prObj) := (Below.refl _ _).alloc (Nat.le_refl _) _
  by_cases hl : xs.length = 32
  · have CP := hide (fun W n => l1Copy_any W g a c xs (hr.up n) hc (by omega))
    have LH := hide hl
    have b31' := hb 31
    have DB : Hid (dcB xs = (canN (low7s xs) && liB (num (low7s xs)) (decide (128 ≤ xs.getD 31 0)))) := by show _ = _; unfold dcB; rw [decide_eq_true hl]; rfl
    have DX : Hid (dcX xs = if dcB xs = true then liX (num (low7s xs)) (decide (128 ≤ xs.getD 31 0)) else []) := by show _ = _; rfl
    have DY : Hid (dcY xs = if dcB xs = true then liY (num (low7s xs)) (decide (128 ≤ xs.getD 31 0)) else []) := by show _ = _; rfl
    obtain ⟨o0, rfl, rc⟩ := id hr (by omega)
    have CB0 := hide (rc 31 (by omega))
    have hg := hr.lt (by omega)
    rw [hl] at CP ⊢
    clear hl rc
    go_enter Tryd.func36, Tryd.ntmps36
    go_upto_region 3 with fail
    change Code.wp _ _ _ _ (w.alloc prObj)
    generalize w.alloc prObj = wr at *
    go_wp2_with fail
    refine (CP.out wr N).mono ?_
    rintro r w1 ⟨⟨a1, c1, g1, rfl, o1, p1, q1, r1⟩, n1⟩
    have z1 := TZ.lt
    replace TZ := TZ.up n1
    replace N := nxt N n1
    clear CP n1 p1
    rw [LH.out] at q1 ⊢
    obtain ⟨off, rfl, oc⟩ := id o1 (by rw [LH.out]; decide)
    have x31 := (oc 31 (by rw [LH.out]; decide)).1
    have f31 := (oc 31 (by rw [LH.out]; decide)).2
    have S1 := o1.store 31 (by rw [LH.out]; decide) (xs.getD 31 0 % 128)
    have N2 : Below w.heap.size w (w1.setCell ⟨g1, off + 31, none⟩ (.int .u8 (xs.getD 31 0 % 128))) := N.setCell (by show w.heap.size ≤ g1; omega) _
    have TZ2 : Tri (w1.setCell ⟨g1, off + 31, none⟩ (.int .u8 (xs.getD 31 0 % 128))) w.heap.size (.bool false) (.slice none 0 0) (.slice none 0 0) := by
      have hbk := heap_setCell_other w1 ⟨g1, off + 31, none⟩ w.heap.size (.int .u8 (xs.getD 31 0 % 128)) (by show w.heap.size ≠ g1; omega)
      exact ⟨(World.cell?_of_block (a := ⟨w.heap.size, 0, none⟩) hbk).trans TZ.c0, (World.cell?_of_block (a := ⟨w.heap.size, 1, none⟩) hbk).trans TZ.c1, (World.cell?_of_block (a := ⟨w.heap.size, 2, none⟩) hbk).trans TZ.c2, (World.frozen?_of_block (a := ⟨w.heap.size, 0, none⟩) hbk).trans TZ.f0, (World.frozen?_of_block (a := ⟨w.heap.size, 1, none⟩) hbk).trans TZ.f1, (World.frozen?_of_block (a := ⟨w.heap.size, 2, none⟩) hbk).trans TZ.f2⟩
    have YB := hide (low7s_byt hb)
    have YL := hide ((low7s_len xs).trans LH.out)
    have SO : Hid (Own (w1.setCell ⟨g1, off + 31, none⟩ (.int .u8 (xs.getD 31 0 % 128))) g1 (some ⟨g1, off, none⟩) .u8 (low7s xs)) := S1
    have CB : Hid ((w1.setCell ⟨g1, off + 31, none⟩ (.int .u8 (xs.getD 31 0 % 128))).cell? ⟨g, o0 + 31, none⟩ = some (.int .u8 (xs.getD 31 0))) := (N2.cell hg).trans CB0.out
    clear S1 o1 oc TZ N CB0 LH hb hr
    obtain ⟨ys, hys⟩ : ∃ ys, ys = low7s xs := ⟨_, rfl⟩
    rw [← hys] at YB YL SO DB DX DY
    clear hys
    obtain ⟨b31, h31⟩ : ∃ b, b = xs.getD 31 0 := ⟨_, rfl⟩
    rw [← h31] at x31 N2 TZ2 SO CB DB DX DY b31'
    clear h31
    obtain ⟨odd, hodd⟩ : ∃ o, o = decide (128 ≤ b31) := ⟨_, rfl⟩
    rw [← hodd] at DB DX DY
    have HO := hide hodd
    clear hodd
    have FC := hide (fun W (h : Rd W g1 (some ⟨g1, off, none⟩) .u8 ys) => specFieldCanonical_any W g1 (some ⟨g1, off, none⟩) c1 ys h YB.out)
    rw [YL.out] at FC
    cases hcn : canN ys with
    | false =>
      have KB : Hid (dcB xs = false) := by show _ = _; rw [DB.out, hcn]; rfl
      have KX : Hid (dcX xs = []) := by show _ = _; rw [DX.out, if_neg (by rw [KB.out]; simp)]
      have KY : Hid (dcY xs = []) := by show _ = _; rw [DY.out, if_neg (by rw [KB.out]; simp)]
      rw [hcn] at FC
      clear hcn DB DX DY CB
      go_wp2_with fail
      generalize w1.setCell ⟨g1, off + 31, none⟩ (.int .u8 (b31 % 128)) = w3 at *
      refine (FC.out w3 SO.out.rd).mono ?_
      rintro r w4 ⟨rfl, n⟩
      obtain ⟨y0, y1, y2, u0, u1, u2⟩ := TZ2.up n
      have N4 := nxt N2 n
      clear FC SO n TZ2 N2 x31 f31
      go_wp2
      refine bodyPost_ret (v := .agg #[.bool false, .slice none 0 0, .slice none 0 0]) (by simp [results, Tryd.results36, go_sem, y0, y1, y2]) rfl ⟨by rw [KB.out, KX.out, KY.out]; exact newPR_nil, ?_⟩
      exact ((N4.setCell (Nat.le_refl _) _).setCell (Nat.le_refl _) _).setCell (Nat.le_refl _) _
    | true =>
      rw [hcn] at DB FC
      clear hcn
      go_wp2_with fail
      generalize w1.setCell ⟨g1, off + 31, none⟩ (.int .u8 (b31 % 128)) = w3 at *
      refine (FC.out w3 SO.out.rd).mono ?_
      rintro r w4 ⟨rfl, n⟩
      have OY := hide (of_ok (SO.out.rd.up n) YB.out YL.out)
      replace CB := hide ((n.cell (block_lt_of_cell CB.out)).trans CB.out)
      replace TZ2 := TZ2.up n
      have N4 := nxt N2 n
      clear FC SO n N2 x31 f31
      go_upto_region 7 with fail
      refine region_newPF 12 10 9 5 31 _ (fun i => [Fact.eq (.slice (some ⟨g1, off, none⟩) 32 c1), EL (num ys), Fact.eq (.slice (some ⟨g, o0, none⟩) 32 c), Fact.eq (.pointer (some ⟨g, o0 + 31, none⟩)), Fact.eq (.int .u8 b31), Fact.eq (.bool odd), LiF w4 (num ys) odd, LiF w4 (num ys) odd, Fact.eq (.bool (liB (num ys) odd)), PT w4 (fun xs zs => xs = liX (num ys) odd ∧ zs = liY (num ys) odd), NBp w4, Fact.eq (.bool (liB (num ys) odd))].getD i Fact.no) (fun xs zs => xs = liX (num ys) odd ∧ zs = liY (num ys) odd) (by kernel_rfl) rfl rfl rfl (by kernel_rfl) (by kernel_rfl) rfl rfl ?_ ?_
      · intro i hi
        obtain rfl | rfl | rfl | rfl | rfl | rfl | rfl | rfl | rfl | rfl | rfl | rfl : i = 0 ∨ i = 1 ∨ i = 2 ∨ i = 3 ∨ i = 4 ∨ i = 5 ∨ i = 6 ∨ i = 7 ∨ i = 8 ∨ i = 9 ∨ i = 10 ∨ i = 11 := by omega
        · exact step_mvp rfl 3 rfl (by kernel_rfl) rfl rfl
        · exact step_of32 rfl 23 0 rfl (by kernel_rfl) OY.out rfl rfl
        · exact step_mvp rfl 0 rfl (by kernel_rfl) rfl rfl
        · exact step_at31 rfl 25 2 rfl (by kernel_rfl) rfl rfl
        · exact step_ld8 rfl 26 3 rfl (by kernel_rfl) rfl CB.out rfl
        · exact step_geq rfl 27 4 rfl (by kernel_rfl) rfl HO.out rfl
        · exact step_lift rfl 24 28 1 5 rfl (by kernel_rfl) (by kernel_rfl) rfl rfl rfl
        · exact step_move rfl 29 6 (by exact Or.inl rfl) (by kernel_rfl) rfl
        · exact step_exL0 rfl 22 7 rfl (by kernel_rfl) rfl rfl
        · exact step_exL1 rfl 22 7 rfl (by kernel_rfl) rfl rfl
        · exact step_newP rfl rfl rfl
        · exact step_move rfl 30 8 (by exact Or.inr rfl) (by kernel_rfl) rfl
      rintro vt q5 W7 ps qs b1 b2 d1 d2 h1 h2 v5 l5 n rg th o1 o2 l1 l2 ⟨rfl, rfl⟩ hF
      obtain ⟨_, v4⟩ := hF 11 4 (by kernel_rfl)
      clear hF
      change vt 4 = .bool (liB (num ys) odd) at v4
      have z4 := TZ2.lt
      replace TZ2 := TZ2.up n
      have z0 := N4.size
      replace N4 := nxt N4 n
      clear n OY CB th
      simp only [puts, v5, v4, Act.put, List.setIfInBounds_toArray, List.set_cons_succ, List.set_cons_zero]
      clear v4 v5
      have k0 := rg 0 _ rfl
      have k1 := rg 1 _ rfl
      simp only [Nat.zero_add] at k0 k1
      clear rg
      obtain ⟨y0, y1, y2, u0, u1, u2⟩ := TZ2
      cases hli : liB (num ys) odd with
      | false =>
        have KB : Hid (dcB xs = false) := by show _ = _; rw [DB.out, hli]; rfl
        have KX : Hid (dcX xs = []) := by show _ = _; rw [DX.out, if_neg (by rw [KB.out]; simp)]
        have KY : Hid (dcY xs = []) := by show _ = _; rw [DY.out, if_neg (by rw [KB.out]; simp)]
        clear DB DX DY o1 o2 hli
        go_wp2
        refine bodyPost_ret (v := .agg #[.bool false, .slice none 0 0, .slice none 0 0]) (by simp [results, Tryd.results36, go_sem, y0, y1, y2]) rfl ⟨by rw [KB.out, KX.out, KY.out]; exact newPR_nil, ?_⟩
        exact ((N4.setCell (Nat.le_refl _) _).setCell (Nat.le_refl _) _).setCell (Nat.le_refl _) _
      | true =>
        have KB : Hid (dcB xs = true) := by show _ = _; rw [DB.out, hli]; rfl
        have KX : Hid (dcX xs = liX (num ys) odd) := by show _ = _; rw [DX.out, if_pos KB.out]
        have KY : Hid (dcY xs = liY (num ys) odd) := by show _ = _; rw [DY.out, if_pos KB.out]
        clear DB DX DY hli
        generalize liX (num ys) odd = X at *
        generalize liY (num ys) odd = Y at *
        have O := ((Only.setCell W7 w.heap.size 0 (.bool true)).trans (Only.setCell _ w.heap.size 1 (.slice b1 X.length d1))).trans (Only.setCell _ w.heap.size 2 (.slice b2 Y.length d2))
        have o1' := o1.only O (fun _ => by omega)
        have o2' := o2.only O (fun _ => by omega)
        have N' := N4.trans (O.below (Nat.le_refl _))
        clear o1 o2 O N4
        go_wp2
        refine bodyPost_ret (v := .agg #[.bool true, .slice b1 X.length d1, .slice b2 Y.length d2]) (by simp [results, Tryd.results36, go_sem, y0, y1, y2]) rfl ⟨?_, N'⟩
        rw [KB.out, KX.out, KY.out]
        exact ⟨b1, b2, d1, d2, h1, h2, rfl, o1', o2', by omega, by omega⟩
  · have t : ((xs.length : Int) != 32) = true := by simp; omega
    have KB : Hid (dcB xs = false) := by show _ = _; unfold dcB; rw [decide_eq_false hl]; rfl
    have KX : Hid (dcX xs = []) := by show _ = _; unfold dcX; rw [if_neg (by rw [KB.out]; simp)]
    have KY : Hid (dcY xs = []) := by show _ = _; unfold dcY; rw [if_neg (by rw [KB.out]; simp)]
    obtain ⟨y0, y1, y2, u0, u1, u2⟩ := TZ
    clear hl
    go_enter Tryd.func36, Tryd.ntmps36
    go_upto_region 1 with fail
    change Code.wp _ _ _ _ (w.alloc prObj)
    generalize w.alloc prObj = wr at *
    go_wp2
    refine bodyPost_ret (v := .agg #[.bool false, .slice none 0 0, .slice none 0 0]) (by simp [results, Tryd.results36, go_sem, y0, y1, y2]) rfl ⟨by rw [KB.out, KX.out, KY.out]; exact newPR_nil, ?_⟩
    exact ((N.setCell (Nat.le_refl _) _).setCell (Nat.le_refl _) _).setCell (Nat.le_refl _) _
end Go.Proofs.YtmhfjkhanlciiaaDoor

/-
  The model's PointEncode.
-/
namespace Go.Proofs.YtmhfjkhanlciiaaDoor
set_option maxRecDepth 100000
open Go Go.RowKit

/-- The form of a point as bytes; nothing, if there is none. -/
def esA (xs ys : List Int) : List Int := if validP xs ys = true then ys.set 31 (ys.getD 31 0 + 128 * (xs.getD 0 0 % 2)) else []
section
variable {ops : Array Oper} {Q : Exit → Act → World → Prop} {md : Region.Mode} {F : Nat → Fact} {a0 : Act} {w0 : World} {i : Nat} {o : Oper}
theorem step_at0 (hi : ops[i]? = some o) (p j : Nat) {g off c : Nat} (hop : o.op = .indexAddr 22 (.tmp p) (.const (.int .i64 0))) (hj : waits md ops i j p = true) (hFj : F j = Fact.eq (.slice (some ⟨g, off, none⟩) 32 c)) (hF : F i = Fact.eq (.pointer (some ⟨g, off, none⟩))) : StepOk Tryd.prog md ops Q F a0 w0 i := by
  refine step_pure hi fun a w hb hw hf => ⟨.pointer (some ⟨g, off, none⟩), ?_, by rw [hF]; exact rfl⟩
  have e := hf j p hj
  rw [hFj] at e
  have e' : a.eval (.tmp p) = .slice (some ⟨g, off, none⟩) 32 c := e
  have e2 : a.eval (.const (.int .i64 0)) = .int .i64 0 := rfl
  simp only [execOp, hop, e', e2]
  go_simp
theorem step_rem2 (hi : ops[i]? = some o) (p j : Nat) {v : Int} (h0 : 0 ≤ v ∧ v < 256) (hop : o.op = .binOp .rem 5 (.tmp p) (.const (.int .u8 2)) 5) (hj : waits md ops i j p = true) (hFj : F j = Fact.eq (.int .u8 v)) (hF : F i = Fact.eq (.int .u8 (v % 2))) : StepOk Tryd.prog md ops Q F a0 w0 i := by
  have et : v.tmod 2 = v % 2 := Int.tmod_eq_emod_of_nonneg h0.1
  refine step_pure hi fun a w _ hw hf => ⟨.int .u8 (v % 2), ?_, by rw [hF]; exact rfl⟩
  have e := hf j p hj
  rw [hFj] at e
  have e' : a.eval (.tmp p) = .int .u8 v := e
  have e2 : a.eval (.const (.int .u8 2)) = .int .u8 2 := rfl
  simp only [execOp, hop, e', e2]
  go_simp
theorem step_m128 (hi : ops[i]? = some o) (p j : Nat) {v : Int} (h0 : 0 ≤ v ∧ v < 2) (hop : o.op = .binOp .mul 5 (.const (.int .u8 128)) (.tmp p) 5) (hj : waits md ops i j p = true) (hFj : F j = Fact.eq (.int .u8 v)) (hF : F i = Fact.eq (.int .u8 (128 * v))) : StepOk Tryd.prog md ops Q F a0 w0 i := by
  have ew : IntKind.u8.wrap (128 * v) = 128 * v := by rw [IntKind.wrap_u8]; omega
  refine step_pure hi fun a w _ hw hf => ⟨.int .u8 (128 * v), ?_, by rw [hF]; exact rfl⟩
  have e := hf j p hj
  rw [hFj] at e
  have e' : a.eval (.tmp p) = .int .u8 v := e
  have e2 : a.eval (.const (.int .u8 128)) = .int .u8 128 := rfl
  simp only [execOp, hop, e', e2]
  go_simp
theorem step_add8 (hi : ops[i]? = some o) (p q j k : Nat) {u v : Int} (h0 : 0 ≤ u + v ∧ u + v < 256) (hop : o.op = .binOp .add 5 (.tmp p) (.tmp q) 5) (hj : waits md ops i j p = true) (hk : waits md ops i k q = true) (hFj : F j = Fact.eq (.int .u8 u)) (hFk : F k = Fact.eq (.int .u8 v)) (hF : F i = Fact.eq (.int .u8 (u + v))) : StepOk Tryd.prog md ops Q F a0 w0 i := by
  have ew : IntKind.u8.wrap (u + v) = u + v := by rw [IntKind.wrap_u8]; omega
  refine step_pure hi fun a w _ hw hf => ⟨.int .u8 (u + v), ?_, by rw [hF]; exact rfl⟩
  have e := hf j p hj
  have e3 := hf k q hk
  rw [hFj] at e
  rw [hFk] at e3
  have e' : a.eval (.tmp p) = .int .u8 u := e
  have e2 : a.eval (.tmp q) = .int .u8 v := e3
  simp only [execOp, hop, e', e2]
  go_simp
end
/-- One byte of a row is set. -/
theorem own_set {w : World} {h off : Nat} {xs : List Int} (o : Own w h (some ⟨h, off, none⟩) .u8 xs) (h0 : 0 < xs.length) (i : Nat) (hi : i < xs.length) (v : Int) : Own (w.setCell ⟨h, off + i, none⟩ (.int .u8 v)) h (some ⟨h, off, none⟩) .u8 (xs.set i v) := by
  obtain ⟨off', e, hc⟩ := o h0
  cases e
  intro _
  refine ⟨off, rfl, fun j hj => ?_⟩
  rw [List.length_set] at hj
  obtain ⟨c, f⟩ := hc j hj
  refine ⟨?_, by rw [World.frozen?_setCell]; exact f⟩
  by_cases e : j = i
  · subst e
    rw [World.cell?_setCell_same _ _ _ c]
    simp [List.getD_eq_getElem?_getD, hj]
  · rw [World.cell?_setCell_other (h := by simp; try omega), c]
    simp [List.getD_eq_getElem?_getD, Ne.symm e]
/-- A region that lays a byte. -/
theorem region_st8 {ops : Array Oper} {Q : Exit → Act → World → Prop} {a0 : Act} {w : World} {id : Nat} {draw : Bool} (k jA jV pA pV : Nat) (o : Oper) (F : Nat → Fact) {q off : Nat} {v u : Int} (hT : textOk .any ops a0.tmps.size k = true) (hk : ops[k]? = some o) (hd : o.dst = none) (hop : o.op = .store 5 (.tmp pA) (.tmp pV))
    (wA : writes ops jA pA = true) (wV : writes ops jV pV = true) (FA : F jA = Fact.eq (.pointer (some ⟨q, off, none⟩))) (FV : F jV = Fact.eq (.int .u8 v)) (hc : w.cell? ⟨q, off, none⟩ = some (.int .u8 u)) (hf : w.frozen? ⟨q, off, none⟩ = false) (steps : ∀ i, i < k → StepOk Tryd.prog .any ops Q F a0 w i)
    (fin : ∀ (vs : Nat → Value) (W : World), Below w.heap.size w W → Q .normal (puts vs a0 ops.toList) (W.setCell ⟨q, off, none⟩ (.int .u8 v))) :
    (Code.region id ops draw).wp Tryd.prog Q a0 w := by
  refine region_store k o F (by kernel_rfl) hT hk hd steps fun a W hb hw hF => ?_
  have h1 := hF jA pA wA
  have h2 := hF jV pV wV
  rw [FA] at h1
  rw [FV] at h2
  have e1 : a.eval (.tmp pA) = .pointer (some ⟨q, off, none⟩) := h1
  have e2 : a.eval (.tmp pV) = .int .u8 v := h2
  have lq := block_lt_of_cell hc
  have c' : W.cell? ⟨q, off, none⟩ = some (.int .u8 u) := (hw.cell lq).trans hc
  have f' : W.frozen? ⟨q, off, none⟩ = false := (hw.frozen lq).trans hf
  have hr : (execOp a.eval o).run Tryd.prog W = .ok .skip (W.setCell ⟨q, off, none⟩ (.int .u8 v)) := by
    simp only [execOp, hop, e1, e2]
    go_simp
  obtain ⟨vs, hvs⟩ : ∃ vs : Nat → Value, ∀ d, a.tmps.getD d undef = vs d := ⟨_, fun _ => rfl⟩
  unfold Oper.wp
  rw [hr, Oper.upon_skip, hd]
  show Q .normal a _
  rw [puts_of hT rfl hb vs hvs]
  exact fin vs W hw
set_option maxHeartbeats 4000000 in
theorem specEncode_any (w : World) (g g' : Nat) (a a' : Option Addr) (c c' : Nat) (xs ys : List Int) (hx : Rd w g a .u8 xs) (hy : Rd w g' a' .u8 ys) (bx : Byt xs) (by' : Byt ys) (y31 : validP xs ys = true → ys.getD 31 0 < 128) :
    Calls Tryd.prog 22 #[.agg #[.slice a xs.length c, .slice a' ys.length c']] w fun r w' => NewRow w.heap.size w' r .u8 (esA xs ys) ∧ Below w.heap.size w w' := by
  have PV := fun W h h' => pointValid_any W g g' a a' c c' xs ys h h' bx by'
  have hx0 := hx
  have hy0 := hy
  have bx0 := bx
  have by0 := by'
  have T := two_cells w (.slice a xs.length c) (.slice a' ys.length c') 27
  have m1 : Below w.heap.size w (w.alloc (.cells #[.slice a xs.length c, .slice a' ys.length c'] 27)) := (Below.refl _ _).alloc (Nat.le_refl _) _
  have s1 : (w.alloc (.cells #[.slice a xs.length c, .slice a' ys.length c'] 27)).heap.size = w.heap.size + 1 := by simp
  have RX : RdOk w a xs := ⟨g, hx, bx⟩
  have RY : RdOk w a' ys := ⟨g', hy, by'⟩
  obtain ⟨CX, CY⟩ := T
  clear hx hy bx by' RX RY
  go_enter Tryd.func22, Tryd.ntmps22
  go_upto_region 1 with fail
  generalize w.alloc (.cells #[.slice a xs.length c, .slice a' ys.length c'] 27) = wa at *
  have N := m1
  clear m1 s1
  cases hv : validP xs ys with
  | false =>
    have e1 : esA xs ys = [] := by unfold esA; rw [hv]; rfl
    simp only [hv] at PV
    go_wp2_with fail
    refine (PV wa (hx0.up N) (hy0.up N)).mono ?_
    rintro e w1 ⟨rfl, n1⟩
    replace N := nxt N n1
    clear PV n1 CX CY hv y31
    go_wp2
    go_ret
    have z := N.size
    exact ⟨by rw [e1]; exact ⟨_, 0, w1.heap.size, rfl, fun h => absurd h (by simp), fun _ => rfl, Nat.le_refl _, by omega⟩, N.alloc N.size _⟩
  | true =>
    have e1 := hide (show esA xs ys = ys.set 31 (ys.getD 31 0 + 128 * (xs.getD 0 0 % 2)) by unfold esA; rw [if_pos hv])
    have LL := hide (valid_len hv)
    have q31 := y31 hv
    simp only [hv] at PV
    go_wp2_with fail
    refine (PV wa (hx0.up N) (hy0.up N)).mono ?_
    rintro e w1 ⟨rfl, n1⟩
    replace N := nxt N n1
    replace CX := (n1.cell (block_lt_of_cell CX)).trans CX
    replace CY := (n1.cell (block_lt_of_cell CY)).trans CY
    have hs : Hid (a' = none → c' = 0) := fun e => by
      obtain ⟨_, e', _⟩ := hy0 (by have := LL.out.2; omega)
      rw [e] at e'
      cases e'
    have CP := hide (fun W (n : Below w.heap.size w W) => l1Copy_any W g' a' c' ys (hy0.up n) hs.out (by have := LL.out.2; omega))
    clear PV n1 hv
    go_wp2_with fail
    refine (CP.out w1 N).mono ?_
    rintro r w2 ⟨⟨b, d, h, rfl, o2, k1, k2, hh⟩, n2⟩
    have N2 := nxt N n2
    replace CX := (n2.cell (block_lt_of_cell CX)).trans CX
    have RX := hx0.up N2
    obtain ⟨off, rfl, hc⟩ := o2 (by have := LL.out.2; omega)
    obtain ⟨ox, rfl, hcx⟩ := RX (by have := LL.out.1; omega)
    have q0 := (hc 31 (by have := LL.out.2; omega)).1
    have f0 := (hc 31 (by have := LL.out.2; omega)).2
    have p0 := hcx 0 (by have := LL.out.1; omega)
    rw [Nat.add_zero] at p0
    have ly : (31 : Int) < (ys.length : Int) := by have := LL.out.2; omega
    have lx : (0 : Int) < (xs.length : Int) := by have := LL.out.1; omega
    have v0 := bx0 0
    have v1 := by0 31
    obtain ⟨y, hy⟩ : ∃ y, y = ys.getD 31 0 := ⟨_, rfl⟩
    obtain ⟨x, hx⟩ : ∃ x, x = xs.getD 0 0 := ⟨_, rfl⟩
    rw [← hy] at q0 v1 q31
    rw [← hx] at p0 v0
    have hY := hide hy
    have hX := hide hx
    have zN := N.size
    clear hy hx CY n2 CP N
    have l1 := LL.out.1
    have l2 := LL.out.2
    go_upto_region 4 with fail
    rw [l1] at CX
    clear l1 l2
    refine region_st8 12 11 10 22 21 _ (fun i => [Fact.eq (.slice (some ⟨h, off, none⟩) 32 d), Fact.eq (.slice (some ⟨h, off, none⟩) 32 d), Fact.eq (.pointer (some ⟨h, off + 31, none⟩)), Fact.eq (.int .u8 y), Fact.eq (.pointer (some ⟨w.heap.size, 0, none⟩)), Fact.eq (.slice (some ⟨g, ox, none⟩) 32 c), Fact.eq (.pointer (some ⟨g, ox, none⟩)), Fact.eq (.int .u8 x), Fact.eq (.int .u8 (x % 2)), Fact.eq (.int .u8 (128 * (x % 2))), Fact.eq (.int .u8 (y + 128 * (x % 2))), Fact.eq (.pointer (some ⟨h, off + 31, none⟩))].getD i Fact.no) (by kernel_rfl) rfl rfl rfl (by kernel_rfl) (by kernel_rfl) rfl rfl q0 f0 ?_ ?_
    · intro i hi
      obtain rfl | rfl | rfl | rfl | rfl | rfl | rfl | rfl | rfl | rfl | rfl | rfl : i = 0 ∨ i = 1 ∨ i = 2 ∨ i = 3 ∨ i = 4 ∨ i = 5 ∨ i = 6 ∨ i = 7 ∨ i = 8 ∨ i = 9 ∨ i = 10 ∨ i = 11 := by omega
      · exact step_mv rfl 3 rfl (by kernel_rfl) rfl rfl
      · exact step_mv rfl 3 rfl (by kernel_rfl) rfl rfl
      · exact step_at31 rfl 12 1 rfl (by kernel_rfl) rfl rfl
      · exact step_ld8 rfl 13 2 rfl (by kernel_rfl) rfl q0 rfl
      · exact step_fld rfl 27 1 0 rfl (by kernel_rfl) _ _ rfl (fxP _) rfl
      · exact step_lds rfl 15 4 rfl (by kernel_rfl) _ _ rfl _ _ _ CX rfl
      · exact step_at0 rfl 16 5 rfl (by kernel_rfl) rfl rfl
      · exact step_ld8 rfl 17 6 rfl (by kernel_rfl) rfl p0 rfl
      · exact step_rem2 rfl 18 7 v0 rfl (by kernel_rfl) rfl rfl
      · exact step_m128 rfl 19 8 (by omega) rfl (by kernel_rfl) rfl rfl
      · exact step_add8 rfl 14 20 3 9 (by omega) rfl (by kernel_rfl) (by kernel_rfl) rfl rfl rfl
      · exact step_at31 rfl 11 0 rfl (by kernel_rfl) rfl rfl
    intro vs W n
    have NW := nxt N2 n
    have ow := (o2.up n)
    have lh := o2.rd.lt (by have := LL.out.2; omega)
    have z1 := N2.size
    have o3 := own_set ow (by have := LL.out.2; omega) 31 (by have := LL.out.2; omega) (y + 128 * (x % 2))
    have NF : Below w.heap.size w (W.setCell ⟨h, off + 31, none⟩ (.int .u8 (y + 128 * (x % 2)))) := NW.setCell (by show w.heap.size ≤ h; omega) _
    simp only [puts, Act.put, List.setIfInBounds_toArray, List.set_cons_succ, List.set_cons_zero]
    clear n NW ow q0 f0 p0 CX hc hcx RX o2 ly lx
    have LS := hide (show (ys.set 31 (y + 128 * (x % 2))).length = 32 by rw [List.length_set]; exact LL.out.2)
    go_wp2
    go_ret
    exact ⟨by rw [e1.out, ← hY.out, ← hX.out]; exact ⟨_, d, h, by rw [LS.out]; rfl, o3, (fun e => by cases e), (by rw [LS.out]; have := LL.out.2; omega), (by omega)⟩, NF⟩
end Go.Proofs.YtmhfjkhanlciiaaDoor
