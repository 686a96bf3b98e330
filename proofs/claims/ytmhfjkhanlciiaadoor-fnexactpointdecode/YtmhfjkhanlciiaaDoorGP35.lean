import Derived.Test.YtmhfjkhanlciiaaDoorGP33
import Derived.Test.YtmhfjkhanlciiaaDoorGP25
import Derived.Test.YtmhfjkhanlciiaaDoorGP26
import Derived.Test.YtmhfjkhanlciiaaDoorGP31
import Derived.Test.YtmhfjkhanlciiaaDoorGP32
import Derived.Test.YtmhfjkhanlciiaaDoorGP34
import Derived.Test.YtmhfjkhanlciiaaDoorGP28
import Derived.Deep.RegionHeld3

/-
  The program's PointZero, PointBase, PointToLadder.
-/
namespace Go.Proofs.YtmhfjkhanlciiaaDoor
set_option maxRecDepth 100000
open Go Go.RowKit

set_option maxHeartbeats 2000000 in
theorem implZero_any (w : World) (ZP : RowN w 1 0 [0, 1]) :
    Calls Tryd.prog 44 #[] w fun r w' => NewP2 w.heap.size w' r (fill (byt ((0) % PP)) 32) (fill (byt ((1) % PP)) 32) ∧ Below w.heap.size w w' := by
  have TZ := Two.new w (.slice none 0 0) (.slice none 0 0) 27
  have N : Below w.heap.size w (w.alloc pObj) := (Below.refl _ _).alloc (Nat.le_refl _) _
  go_enter Tryd.func44, Tryd.ntmps44
  go_upto_region 1 with fail
  obtain ⟨wr, hwr⟩ : ∃ W, W = w.alloc pObj := ⟨_, rfl⟩
  change Two (w.alloc pObj) _ _ _ at TZ
  rw [← hwr] at TZ N
  change Code.wp _ _ _ _ (w.alloc pObj)
  rw [← hwr]
  clear hwr
  replace ZP := ZP.up N
  refine region_putD 2 1 0 2 _ (fun i => [EN [0, 1], PD wr (fill (byt ((0) % PP)) 32) (fill (byt ((1) % PP)) 32)].getD i Fact.no) (fill (byt ((0) % PP)) 32) (fill (byt ((1) % PP)) 32) _ (by kernel_rfl) rfl rfl rfl (by kernel_rfl) rfl TZ.there (by kernel_rfl) rfl ?_ ?_
  · intro i hi
    obtain rfl | rfl : i = 0 ∨ i = 1 := by omega
    · exact step_glA rfl 1 rfl _ _ ZP rfl
    · exact step_pt rfl 1 0 _ _ rfl (by kernel_rfl) rfl rfl
  intro vsL Wa Wb b b' k k' h h' na rg o1 o2 l1 l2 hne nb
  have z := N.size
  have NS := nb w w.heap.size (nxt N na) (by omega)
  simp only [puts, Act.put, List.setIfInBounds_toArray, List.set_cons_succ, List.set_cons_zero]
  clear na nb N TZ ZP
  obtain ⟨fs, hfs⟩ := uP
  go_wp2
  exact bodyPost_ret (v := .agg #[.slice b _ k, .slice b' _ k']) (results_cell_mid Tryd.results44 _ _ w.heap.size [.slice b _ k, .slice b' _ k'] _ rfl rg hfs rfl iP) rfl ⟨⟨b, k, h, b', k', h', rfl, o1, o2, by omega, by omega, hne⟩, NS⟩
set_option maxHeartbeats 2000000 in
theorem implBase_any (w : World) (X Y : Int) (ZP : RowN w 0 0 [X, Y]) :
    Calls Tryd.prog 19 #[] w fun r w' => NewP2 w.heap.size w' r (fill (byt ((X) % PP)) 32) (fill (byt ((Y) % PP)) 32) ∧ Below w.heap.size w w' := by
  have TZ := Two.new w (.slice none 0 0) (.slice none 0 0) 27
  have N : Below w.heap.size w (w.alloc pObj) := (Below.refl _ _).alloc (Nat.le_refl _) _
  go_enter Tryd.func19, Tryd.ntmps19
  go_upto_region 1 with fail
  obtain ⟨wr, hwr⟩ : ∃ W, W = w.alloc pObj := ⟨_, rfl⟩
  change Two (w.alloc pObj) _ _ _ at TZ
  rw [← hwr] at TZ N
  change Code.wp _ _ _ _ (w.alloc pObj)
  rw [← hwr]
  clear hwr
  replace ZP := ZP.up N
  refine region_putD 2 1 0 2 _ (fun i => [EN [X, Y], PD wr (fill (byt ((X) % PP)) 32) (fill (byt ((Y) % PP)) 32)].getD i Fact.no) (fill (byt ((X) % PP)) 32) (fill (byt ((Y) % PP)) 32) _ (by kernel_rfl) rfl rfl rfl (by kernel_rfl) rfl TZ.there (by kernel_rfl) rfl ?_ ?_
  · intro i hi
    obtain rfl | rfl : i = 0 ∨ i = 1 := by omega
    · exact step_glA rfl 0 rfl _ _ ZP rfl
    · exact step_pt rfl 1 0 _ _ rfl (by kernel_rfl) rfl rfl
  intro vsL Wa Wb b b' k k' h h' na rg o1 o2 l1 l2 hne nb
  have z := N.size
  have NS := nb w w.heap.size (nxt N na) (by omega)
  simp only [puts, Act.put, List.setIfInBounds_toArray, List.set_cons_succ, List.set_cons_zero]
  clear na nb N TZ ZP
  obtain ⟨fs, hfs⟩ := uP
  go_wp2
  exact bodyPost_ret (v := .agg #[.slice b _ k, .slice b' _ k']) (results_cell_mid Tryd.results19 _ _ w.heap.size [.slice b _ k, .slice b' _ k'] _ rfl rg hfs rfl iP) rfl ⟨⟨b, k, h, b', k', h', rfl, o1, o2, by omega, by omega, hne⟩, NS⟩
/-- The ladder's coordinate of a point, as bytes. -/
def tlA (D : Int) (xs ys : List Int) : List Int := if rpB D xs ys = true then fill (byt ((1 + rpY xs ys) * (1 - rpY xs ys) ^ eInv % PP)) 32 else []
set_option maxHeartbeats 2000000 in
theorem implToLadder_any (w : World) (g g' : Nat) (a a' : Option Addr) (c c' : Nat) (xs ys : List Int) (hx : Rd w g a .u8 xs) (hy : Rd w g' a' .u8 ys) (bx : Byt xs) (by' : Byt ys) (D : Int) (TT : HasTw w 3) (CC : Em5 w 2 0 D) (SS : HasSt w 7) (II : Has3 w 4 12 5 4) :
    Calls Tryd.prog 28 #[.agg #[.slice a xs.length c, .slice a' ys.length c']] w fun r w' => NewRow w.heap.size w' r .u8 (tlA D xs ys) ∧ Below w.heap.size w w' := by
  have T := two_cells w (.slice a xs.length c) (.slice a' ys.length c') 27
  have m1 : Below w.heap.size w (w.alloc (.cells #[.slice a xs.length c, .slice a' ys.length c'] 27)) := (Below.refl _ _).alloc (Nat.le_refl _) _
  have s1 : (w.alloc (.cells #[.slice a xs.length c, .slice a' ys.length c'] 27)).heap.size = w.heap.size + 1 := by simp
  have RX : RdOk w a xs := ⟨g, hx, bx⟩
  have RY : RdOk w a' ys := ⟨g', hy, by'⟩
  obtain ⟨CX, CY⟩ := T
  clear hx hy bx by'
  go_enter Tryd.func28, Tryd.ntmps28
  go_upto_region 1 with fail
  generalize w.alloc (.cells #[.slice a xs.length c, .slice a' ys.length c'] 27) = wa at *
  have N := m1
  clear m1 s1
  replace RX := RX.up N
  replace RY := RY.up N
  replace TT := TT.up N
  replace CC := CC.up N
  replace SS := SS.up N
  replace II := II.up N
  refine region_newN_asg 61 6 5 3 3 8 4 9 4 _ _ (fun i => [Fact.eq (.agg #[.slice a xs.length c, .slice a' ys.length c']), TB [rpX xs ys, rpY xs ys] (rpB D xs ys), TB [rpX xs ys, rpY xs ys] (rpB D xs ys), EN [rpX xs ys, rpY xs ys], Fact.eq (.bool (rpB D xs ys)), NB wa 10].getD i Fact.no) [rpX xs ys, rpY xs ys] (.bool (rpB D xs ys)) (by kernel_rfl) rfl rfl rfl rfl rfl rfl iA (Nat.zero_lt_succ _) rfl rfl rfl (by kernel_rfl) (by kernel_rfl) (by kernel_rfl) rfl rfl rfl (by decide) (by kernel_rfl) ?_ ?_
  · intro i hi
    obtain rfl | rfl | rfl | rfl | rfl | rfl : i = 0 ∨ i = 1 ∨ i = 2 ∨ i = 3 ∨ i = 4 ∨ i = 5 := by omega
    · exact step_lP rfl 1 rfl (by kernel_rfl) _ rfl _ _ CX CY rfl
    · exact step_rp TT CC rfl 6 0 rfl (by kernel_rfl) RX RY rfl rfl
    · exact step_move rfl 7 1 (by exact Or.inl rfl) (by kernel_rfl) rfl
    · exact step_tx0 rfl 5 2 _ _ rfl (by kernel_rfl) rfl rfl
    · exact step_tx1 rfl 5 2 _ _ rfl (by kernel_rfl) rfl rfl
    · exact step_newA rfl rfl rfl
  intro vs1 q3 W1 v3 b4 l3 n E3 T3
  replace RX := RX.up n
  replace RY := RY.up n
  replace TT := TT.up n
  replace CC := CC.up n
  replace SS := SS.up n
  replace II := II.up n
  replace CX := (n.cell (block_lt_of_cell CX)).trans CX
  replace CY := (n.cell (block_lt_of_cell CY)).trans CY
  replace N := nxt N n
  clear n T3 l3
  obtain ⟨ok1, hok1⟩ : ∃ b, b = rpB D xs ys := ⟨_, rfl⟩
  rw [← hok1] at b4
  have HK1 := hide hok1
  clear hok1
  simp only [puts, v3, b4, Act.put, List.setIfInBounds_toArray, List.set_cons_succ, List.set_cons_zero]
  clear v3 b4
  cases ok1 with
  | false =>
    have e1 : tlA D xs ys = [] := by unfold tlA; rw [← HK1.out]; rfl
    clear RX RY TT CC SS II E3 CX CY
    go_wp2
    go_ret
    exact ⟨by rw [e1]; exact ⟨none, 0, w.heap.size, rfl, Own.nil _ _ _ _, fun _ => rfl, Nat.le_refl _, Nat.le_refl _⟩, N⟩
  | true =>
    have e1 : tlA D xs ys = (fill (byt (((1 + (rpY xs ys)) * (1 - (rpY xs ys)) ^ eInv) % PP)) 32) := by unfold tlA; rw [if_pos HK1.out.symm]
    go_upto_region 4 with fail
    refine region_end 4 (fun i => [EN [rpX xs ys, rpY xs ys], EM ((1 + (rpY xs ys)) * (1 - (rpY xs ys)) ^ eInv), RN W1 (fun u9 => u9 = fill (byt (((1 + (rpY xs ys)) * (1 - (rpY xs ys)) ^ eInv) % PP)) 32), RN W1 (fun u9 => u9 = fill (byt (((1 + (rpY xs ys)) * (1 - (rpY xs ys)) ^ eInv) % PP)) 32)].getD i Fact.no) (by kernel_rfl) (by kernel_rfl) rfl ?_ ?_
    · intro i hi
      obtain rfl | rfl | rfl | rfl : i = 0 ∨ i = 1 ∨ i = 2 ∨ i = 3 := by omega
      · exact step_lA rfl 3 rfl (by kernel_rfl) _ rfl _ _  E3 rfl
      · exact step_coord TT SS II rfl 12 0 _ _ rfl (by kernel_rfl) rfl rfl
      · exact step_eb rfl 13 1 _ rfl (by kernel_rfl) rfl rfl
      · exact step_move rfl 14 2 (by exact Or.inr rfl) (by kernel_rfl) rfl
    intro A W hb hw hF
    have e2 := hF 3 2 (by kernel_rfl)
    obtain ⟨vs, hvs⟩ : ∃ vs : Nat → Value, ∀ d, A.tmps.getD d undef = vs d := ⟨_, fun _ => rfl⟩
    rw [hvs] at e2
    rw [puts_of (md := .any) (k := 4) (by kernel_rfl) rfl hb vs hvs]
    have N9 := nxt N hw
    have z := N.size
    clear hb hF hvs hw RX RY TT CC SS II E3 CX CY
    obtain ⟨zs, b, d, h, e3, o3, l3, hzs, k1, k2⟩ := e2
    replace hzs : zs = (fill (byt (((1 + (rpY xs ys)) * (1 - (rpY xs ys)) ^ eInv) % PP)) 32) := hzs
    subst hzs
    simp only [puts, e3, Act.put, List.setIfInBounds_toArray, List.set_cons_succ, List.set_cons_zero]
    go_wp2
    go_ret
    exact ⟨by rw [e1]; exact ⟨b, d, h, rfl, o3, k1, k2, by omega⟩, N9⟩
end Go.Proofs.YtmhfjkhanlciiaaDoor

/-
  The model's PointAdd.
-/
namespace Go.Proofs.YtmhfjkhanlciiaaDoor
set_option maxRecDepth 100000
open Go Go.RowKit

theorem of_up5 {W W' : World} {a : Option Addr} {px : List Int} (h : OfOk W a px) (n : Below W.heap.size W W') : OfOk W' a px := by
  obtain ⟨g, r, b, l⟩ := h
  exact ⟨g, r.up n, b, l⟩
theorem valid_len {px py : List Int} (h : validP px py = true) : px.length = 32 ∧ py.length = 32 := by
  unfold validP at h
  simp only [Bool.and_eq_true] at h
  exact ⟨can_len h.1.1, can_len h.1.2⟩
/-- The coordinates of the sum, as bytes; nothing, if one of the points is none. -/
def paX (px py qx qy : List Int) : List Int := if validP px py = true ∧ validP qx qy = true then fill (byt (addX (num px, num py) (num qx, num qy) % PP)) 32 else []
def paY (px py qx qy : List Int) : List Int := if validP px py = true ∧ validP qx qy = true then fill (byt (addY (num px, num py) (num qx, num qy) % PP)) 32 else []
theorem newPt_nil {B : Nat} {w : World} : NewPt B w (.returned (.agg #[.slice none 0 0, .slice none 0 0])) [] [] := ⟨none, none, 0, 0, B, B, rfl, Own.nil _ _ _ _, Own.nil _ _ _ _, Nat.le_refl _, Nat.le_refl _⟩

set_option maxHeartbeats 2000000 in
theorem specPointAdd_any (w : World) (g1 g2 g3 g4 : Nat) (a1 a2 a3 a4 : Option Addr) (c1 c2 c3 c4 : Nat) (px py qx qy : List Int) (hx : Rd w g1 a1 .u8 px) (hy : Rd w g2 a2 .u8 py) (hu : Rd w g3 a3 .u8 qx) (hv : Rd w g4 a4 .u8 qy) (bx : Byt px) (by' : Byt py) (bu : Byt qx) (bv : Byt qy) :
    Calls Tryd.prog 29 #[.agg #[.slice a1 px.length c1, .slice a2 py.length c2], .agg #[.slice a3 qx.length c3, .slice a4 qy.length c4]] w fun r w' => NewPt w.heap.size w' r (paX px py qx qy) (paY px py qx qy) ∧ Below w.heap.size w w' := by
  have T := two_cells w (.slice a1 px.length c1) (.slice a2 py.length c2) 27
  have T2 := fun W => two_cells W (.slice a3 qx.length c3) (.slice a4 qy.length c4) 27
  have m1 : Below w.heap.size w (w.alloc (.cells #[.slice a1 px.length c1, .slice a2 py.length c2] 27)) := (Below.refl _ _).alloc (Nat.le_refl _) _
  have s1 : (w.alloc (.cells #[.slice a1 px.length c1, .slice a2 py.length c2] 27)).heap.size = w.heap.size + 1 := by simp
  have PV1 := fun W h h' => pointValid_any W g1 g2 a1 a2 c1 c2 px py h h' bx by'
  have PV2 := fun W h h' => pointValid_any W g3 g4 a3 a4 c3 c4 qx qy h h' bu bv
  obtain ⟨CX, CY⟩ := T
  go_enter Tryd.func29, Tryd.ntmps29
  go_upto_region 1 with fail
  generalize w.alloc (.cells #[.slice a1 px.length c1, .slice a2 py.length c2] 27) = wa at *
  have T2' := T2 wa
  have m2 : Below wa.heap.size wa (wa.alloc (.cells #[.slice a3 qx.length c3, .slice a4 qy.length c4] 27)) := (Below.refl _ _).alloc (Nat.le_refl _) _
  have s2 : (wa.alloc (.cells #[.slice a3 qx.length c3, .slice a4 qy.length c4] 27)).heap.size = wa.heap.size + 1 := by simp
  rw [s1] at T2' s2
  obtain ⟨CU, CV⟩ := T2'
  generalize wa.alloc (.cells #[.slice a3 qx.length c3, .slice a4 qy.length c4] 27) = wb at *
  change Code.wp _ _ _ _ (wb.alloc pObj)
  have TR := there_p wb
  have TZ : Two (wb.alloc pObj) wb.heap.size (.slice none 0 0) (.slice none 0 0) := Two.new wb (.slice none 0 0) (.slice none 0 0) 27
  have m3 : Below wb.heap.size wb (wb.alloc pObj) := (Below.refl _ _).alloc (Nat.le_refl _) _
  rw [s2] at TR TZ
  replace CX := ((nxt m2 m3).cell (block_lt_of_cell CX)).trans CX
  replace CY := ((nxt m2 m3).cell (block_lt_of_cell CY)).trans CY
  replace CU := (m3.cell (block_lt_of_cell CU)).trans CU
  replace CV := (m3.cell (block_lt_of_cell CV)).trans CV
  have N := nxt (nxt m1 m2) m3
  have RX := hx.up N
  have RY := hy.up N
  have RU := hu.up N
  have RV := hv.up N
  clear hx hy hu hv T2 m1 m2 m3 s1 s2
  generalize wb.alloc pObj = wr at *
  cases h1 : validP px py with
  | false =>
    have KX : Hid (paX px py qx qy = []) := by show _ = _; unfold paX; rw [if_neg (fun h => by rw [h1] at h; simp at h)]
    have KY : Hid (paY px py qx qy = []) := by show _ = _; unfold paY; rw [if_neg (fun h => by rw [h1] at h; simp at h)]
    simp only [h1] at PV1
    go_wp2_with fail
    refine (PV1 wr RX RY).mono ?_
    rintro e w1 ⟨rfl, n1⟩
    replace N := nxt N n1
    obtain ⟨y0, y1, f0, f1⟩ := TZ.up n1
    clear PV1 PV2 n1 CX CY CU CV RX RY RU RV TR TZ
    go_wp2
    refine bodyPost_ret (v := .agg #[.slice none 0 0, .slice none 0 0]) (by simp [results, Tryd.results29, go_sem, y0, y1]) rfl ⟨by rw [KX.out, KY.out]; exact newPt_nil, ?_⟩
    exact (N.setCell (by show w.heap.size ≤ w.heap.size + 1 + 1; omega) _).setCell (by show w.heap.size ≤ w.heap.size + 1 + 1; omega) _
  | true =>
    simp only [h1] at PV1
    go_wp2_with fail
    refine (PV1 wr RX RY).mono ?_
    rintro e w1 ⟨rfl, n1⟩
    replace CX := (n1.cell (block_lt_of_cell CX)).trans CX
    replace CY := (n1.cell (block_lt_of_cell CY)).trans CY
    replace CU := (n1.cell (block_lt_of_cell CU)).trans CU
    replace CV := (n1.cell (block_lt_of_cell CV)).trans CV
    replace RX := RX.up n1
    replace RY := RY.up n1
    replace RU := RU.up n1
    replace RV := RV.up n1
    replace N := nxt N n1
    replace TR := there_up (by omega) TR n1
    replace TZ := TZ.up n1
    clear PV1 n1
    cases h2 : validP qx qy with
    | false =>
      have KX : Hid (paX px py qx qy = []) := by show _ = _; unfold paX; rw [if_neg (fun h => by rw [h2] at h; simp at h)]
      have KY : Hid (paY px py qx qy = []) := by show _ = _; unfold paY; rw [if_neg (fun h => by rw [h2] at h; simp at h)]
      simp only [h2] at PV2
      go_wp2_with fail
      refine (PV2 w1 RU RV).mono ?_
      rintro e w2 ⟨rfl, n1⟩
      replace N := nxt N n1
      obtain ⟨y0, y1, f0, f1⟩ := TZ.up n1
      clear PV2 n1 CX CY CU CV RX RY RU RV TR TZ
      go_wp2
      refine bodyPost_ret (v := .agg #[.slice none 0 0, .slice none 0 0]) (by simp [results, Tryd.results29, go_sem, y0, y1]) rfl ⟨by rw [KX.out, KY.out]; exact newPt_nil, ?_⟩
      exact (N.setCell (by show w.heap.size ≤ w.heap.size + 1 + 1; omega) _).setCell (by show w.heap.size ≤ w.heap.size + 1 + 1; omega) _
    | true =>
      have KX : Hid (paX px py qx qy = fill (byt (addX (num px, num py) (num qx, num qy) % PP)) 32) := by show _ = _; unfold paX; rw [if_pos ⟨h1, h2⟩]
      have KY : Hid (paY px py qx qy = fill (byt (addY (num px, num py) (num qx, num qy) % PP)) 32) := by show _ = _; unfold paY; rw [if_pos ⟨h1, h2⟩]
      have l1 := hide (valid_len h1)
      have l2 := hide (valid_len h2)
      simp only [h2] at PV2
      go_wp2_with fail
      refine (PV2 w1 RU RV).mono ?_
      rintro e w2 ⟨rfl, n1⟩
      replace CX := (n1.cell (block_lt_of_cell CX)).trans CX
      replace CY := (n1.cell (block_lt_of_cell CY)).trans CY
      replace CU := (n1.cell (block_lt_of_cell CU)).trans CU
      replace CV := (n1.cell (block_lt_of_cell CV)).trans CV
      have OX := hide (of_ok (RX.up n1) bx l1.1)
      have OY := hide (of_ok (RY.up n1) by' l1.2)
      have OU := hide (of_ok (RU.up n1) bu l2.1)
      have OV := hide (of_ok (RV.up n1) bv l2.2)
      replace N := nxt N n1
      replace TR := there_up (by omega) TR n1
      clear PV2 n1 RX RY RU RV TZ h1 h2 l1 l2
      go_upto_region 3 with fail
      refine region_new16 4 3 2 5 23 _ (fun i => [Fact.eq (.pointer (some ⟨w.heap.size, 0, none⟩)), Fact.eq (.slice a1 px.length c1), EL (num px), NB w2 16].getD i Fact.no) (num px) (by kernel_rfl) rfl rfl rfl (by kernel_rfl) (by kernel_rfl) rfl rfl ?_ ?_
      · intro i hi
        obtain rfl | rfl | rfl | rfl : i = 0 ∨ i = 1 ∨ i = 2 ∨ i = 3 := by omega
        · exact step_fld rfl 27 2 0 rfl (by kernel_rfl) _ _ rfl (fxP _) rfl
        · exact step_lds rfl 21 0 rfl (by kernel_rfl) _ _ rfl _ _ _ CX rfl
        · exact step_of rfl 22 1 rfl (by kernel_rfl) OX.out rfl rfl
        · exact step_new16 rfl rfl rfl
      intro qy3 q5 W3' v5 l5 n E5 T5
      replace CX := (n.cell (block_lt_of_cell CX)).trans CX
      replace CY := (n.cell (block_lt_of_cell CY)).trans CY
      replace CU := (n.cell (block_lt_of_cell CU)).trans CU
      replace CV := (n.cell (block_lt_of_cell CV)).trans CV
      replace OX := hide (of_up5 OX.out n)
      replace OY := hide (of_up5 OY.out n)
      replace OU := hide (of_up5 OU.out n)
      replace OV := hide (of_up5 OV.out n)
      replace TR := there_up (by omega) TR n
      replace N := nxt N n
      clear n T5
      simp only [puts, v5, Act.put, List.setIfInBounds_toArray, List.set_cons_succ, List.set_cons_zero]
      clear v5
      go_upto_region 4 with fail
      refine region_new16 4 3 2 6 26 _ (fun i => [Fact.eq (.pointer (some ⟨w.heap.size, 1, none⟩)), Fact.eq (.slice a2 py.length c2), EL (num py), NB W3' 16].getD i Fact.no) (num py) (by kernel_rfl) rfl rfl rfl (by kernel_rfl) (by kernel_rfl) rfl rfl ?_ ?_
      · intro i hi
        obtain rfl | rfl | rfl | rfl : i = 0 ∨ i = 1 ∨ i = 2 ∨ i = 3 := by omega
        · exact step_fld rfl 27 2 1 rfl (by kernel_rfl) _ _ rfl (fyP _) rfl
        · exact step_lds rfl 24 0 rfl (by kernel_rfl) _ _ rfl _ _ _ CY rfl
        · exact step_of rfl 25 1 rfl (by kernel_rfl) OY.out rfl rfl
        · exact step_new16 rfl rfl rfl
      intro qy4 q6 W4' v6 l6 n E6 T6
      replace CX := (n.cell (block_lt_of_cell CX)).trans CX
      replace CY := (n.cell (block_lt_of_cell CY)).trans CY
      replace CU := (n.cell (block_lt_of_cell CU)).trans CU
      replace CV := (n.cell (block_lt_of_cell CV)).trans CV
      replace OX := hide (of_up5 OX.out n)
      replace OY := hide (of_up5 OY.out n)
      replace OU := hide (of_up5 OU.out n)
      replace OV := hide (of_up5 OV.out n)
      replace E5 := E5.up n
      replace TR := there_up (by omega) TR n
      replace N := nxt N n
      clear n T6
      simp only [puts, v6, Act.put, List.setIfInBounds_toArray, List.set_cons_succ, List.set_cons_zero]
      clear v6
      go_upto_region 5 with fail
      refine region_new16 4 3 2 7 29 _ (fun i => [Fact.eq (.pointer (some ⟨(w.heap.size + 1), 0, none⟩)), Fact.eq (.slice a3 qx.length c3), EL (num qx), NB W4' 16].getD i Fact.no) (num qx) (by kernel_rfl) rfl rfl rfl (by kernel_rfl) (by kernel_rfl) rfl rfl ?_ ?_
      · intro i hi
        obtain rfl | rfl | rfl | rfl : i = 0 ∨ i = 1 ∨ i = 2 ∨ i = 3 := by omega
        · exact step_fld rfl 27 3 0 rfl (by kernel_rfl) _ _ rfl (fxP _) rfl
        · exact step_lds rfl 27 0 rfl (by kernel_rfl) _ _ rfl _ _ _ CU rfl
        · exact step_of rfl 28 1 rfl (by kernel_rfl) OU.out rfl rfl
        · exact step_new16 rfl rfl rfl
      intro qy5 q7 W5 v7 l7 n E7 T7
      replace CX := (n.cell (block_lt_of_cell CX)).trans CX
      replace CY := (n.cell (block_lt_of_cell CY)).trans CY
      replace CU := (n.cell (block_lt_of_cell CU)).trans CU
      replace CV := (n.cell (block_lt_of_cell CV)).trans CV
      replace OX := hide (of_up5 OX.out n)
      replace OY := hide (of_up5 OY.out n)
      replace OU := hide (of_up5 OU.out n)
      replace OV := hide (of_up5 OV.out n)
      replace E5 := E5.up n
      replace E6 := E6.up n
      replace TR := there_up (by omega) TR n
      replace N := nxt N n
      clear n T7
      simp only [puts, v7, Act.put, List.setIfInBounds_toArray, List.set_cons_succ, List.set_cons_zero]
      clear v7
      go_upto_region 6 with fail
      refine region_new16 4 3 2 8 32 _ (fun i => [Fact.eq (.pointer (some ⟨(w.heap.size + 1), 1, none⟩)), Fact.eq (.slice a4 qy.length c4), EL (num qy), NB W5 16].getD i Fact.no) (num qy) (by kernel_rfl) rfl rfl rfl (by kernel_rfl) (by kernel_rfl) rfl rfl ?_ ?_
      · intro i hi
        obtain rfl | rfl | rfl | rfl : i = 0 ∨ i = 1 ∨ i = 2 ∨ i = 3 := by omega
        · exact step_fld rfl 27 3 1 rfl (by kernel_rfl) _ _ rfl (fyP _) rfl
        · exact step_lds rfl 30 0 rfl (by kernel_rfl) _ _ rfl _ _ _ CV rfl
        · exact step_of rfl 31 1 rfl (by kernel_rfl) OV.out rfl rfl
        · exact step_new16 rfl rfl rfl
      intro qy6 q8 W6 v8 l8 n E8 T8
      replace CX := (n.cell (block_lt_of_cell CX)).trans CX
      replace CY := (n.cell (block_lt_of_cell CY)).trans CY
      replace CU := (n.cell (block_lt_of_cell CU)).trans CU
      replace CV := (n.cell (block_lt_of_cell CV)).trans CV
      replace OX := hide (of_up5 OX.out n)
      replace OY := hide (of_up5 OY.out n)
      replace OU := hide (of_up5 OU.out n)
      replace OV := hide (of_up5 OV.out n)
      replace E5 := E5.up n
      replace E6 := E6.up n
      replace E7 := E7.up n
      replace TR := there_up (by omega) TR n
      replace N := nxt N n
      clear n T8
      simp only [puts, v8, Act.put, List.setIfInBounds_toArray, List.set_cons_succ, List.set_cons_zero]
      clear v8
      go_upto_region 7 with fail
      refine region_new16 10 9 8 9 41 _ (fun i => [EL dE, EL (num px), EL (num qx), EL ((num px) * (num qx)), EL (num py), EL (num qy), EL ((num py) * (num qy)), EL (((num px) * (num qx)) * ((num py) * (num qy))), EL ((dE) * (((num px) * (num qx)) * ((num py) * (num qy)))), NB W6 16].getD i Fact.no) ((dE) * (((num px) * (num qx)) * ((num py) * (num qy)))) (by kernel_rfl) rfl rfl rfl (by kernel_rfl) (by kernel_rfl) rfl rfl ?_ ?_
      · intro i hi
        obtain rfl | rfl | rfl | rfl | rfl | rfl | rfl | rfl | rfl | rfl : i = 0 ∨ i = 1 ∨ i = 2 ∨ i = 3 ∨ i = 4 ∨ i = 5 ∨ i = 6 ∨ i = 7 ∨ i = 8 ∨ i = 9 := by omega
        · exact step_d rfl rfl rfl
        · exact step_el rfl 51 5 rfl Go.Proofs.YtmhfjkhanlciiaaDoor.u50 i50 (by kernel_rfl) _ _ rfl _ E5 rfl
        · exact step_el rfl 51 7 rfl Go.Proofs.YtmhfjkhanlciiaaDoor.u50 i50 (by kernel_rfl) _ _ rfl _ E7 rfl
        · exact step_mul rfl 34 35 1 2 _ _ rfl (by kernel_rfl) (by kernel_rfl) rfl rfl rfl
        · exact step_el rfl 51 6 rfl Go.Proofs.YtmhfjkhanlciiaaDoor.u50 i50 (by kernel_rfl) _ _ rfl _ E6 rfl
        · exact step_el rfl 51 8 rfl Go.Proofs.YtmhfjkhanlciiaaDoor.u50 i50 (by kernel_rfl) _ _ rfl _ E8 rfl
        · exact step_mul rfl 37 38 4 5 _ _ rfl (by kernel_rfl) (by kernel_rfl) rfl rfl rfl
        · exact step_mul rfl 36 39 3 6 _ _ rfl (by kernel_rfl) (by kernel_rfl) rfl rfl rfl
        · exact step_mul rfl 33 40 0 7 _ _ rfl (by kernel_rfl) (by kernel_rfl) rfl rfl rfl
        · exact step_new16 rfl rfl rfl
      intro qy7 q9 W7 v9 l9 n E9 T9
      replace CX := (n.cell (block_lt_of_cell CX)).trans CX
      replace CY := (n.cell (block_lt_of_cell CY)).trans CY
      replace CU := (n.cell (block_lt_of_cell CU)).trans CU
      replace CV := (n.cell (block_lt_of_cell CV)).trans CV
      replace OX := hide (of_up5 OX.out n)
      replace OY := hide (of_up5 OY.out n)
      replace OU := hide (of_up5 OU.out n)
      replace OV := hide (of_up5 OV.out n)
      replace E5 := E5.up n
      replace E6 := E6.up n
      replace E7 := E7.up n
      replace E8 := E8.up n
      replace TR := there_up (by omega) TR n
      replace N := nxt N n
      clear n T9
      simp only [puts, v9, Act.put, List.setIfInBounds_toArray, List.set_cons_succ, List.set_cons_zero]
      clear v9
      go_upto_region 8 with fail
      refine region_new16 13 12 11 10 53 _ (fun i => [EL (num px), EL (num qy), EL ((num px) * (num qy)), EL (num py), EL (num qx), EL ((num py) * (num qx)), EL (((num px) * (num qy)) + ((num py) * (num qx))), EL 1, EL ((dE) * (((num px) * (num qx)) * ((num py) * (num qy)))), EL ((1) + ((dE) * (((num px) * (num qx)) * ((num py) * (num qy))))), EL (iv ((1) + ((dE) * (((num px) * (num qx)) * ((num py) * (num qy)))))), EL ((((num px) * (num qy)) + ((num py) * (num qx))) * (iv ((1) + ((dE) * (((num px) * (num qx)) * ((num py) * (num qy))))))), NB W7 16].getD i Fact.no) ((((num px) * (num qy)) + ((num py) * (num qx))) * (iv ((1) + ((dE) * (((num px) * (num qx)) * ((num py) * (num qy))))))) (by kernel_rfl) rfl rfl rfl (by kernel_rfl) (by kernel_rfl) rfl rfl ?_ ?_
      · intro i hi
        obtain rfl | rfl | rfl | rfl | rfl | rfl | rfl | rfl | rfl | rfl | rfl | rfl | rfl : i = 0 ∨ i = 1 ∨ i = 2 ∨ i = 3 ∨ i = 4 ∨ i = 5 ∨ i = 6 ∨ i = 7 ∨ i = 8 ∨ i = 9 ∨ i = 10 ∨ i = 11 ∨ i = 12 := by omega
        · exact step_el rfl 51 5 rfl Go.Proofs.YtmhfjkhanlciiaaDoor.u50 i50 (by kernel_rfl) _ _ rfl _ E5 rfl
        · exact step_el rfl 51 8 rfl Go.Proofs.YtmhfjkhanlciiaaDoor.u50 i50 (by kernel_rfl) _ _ rfl _ E8 rfl
        · exact step_mul rfl 42 43 0 1 _ _ rfl (by kernel_rfl) (by kernel_rfl) rfl rfl rfl
        · exact step_el rfl 51 6 rfl Go.Proofs.YtmhfjkhanlciiaaDoor.u50 i50 (by kernel_rfl) _ _ rfl _ E6 rfl
        · exact step_el rfl 51 7 rfl Go.Proofs.YtmhfjkhanlciiaaDoor.u50 i50 (by kernel_rfl) _ _ rfl _ E7 rfl
        · exact step_mul rfl 45 46 3 4 _ _ rfl (by kernel_rfl) (by kernel_rfl) rfl rfl rfl
        · exact step_add rfl 44 47 2 5 _ _ rfl (by kernel_rfl) (by kernel_rfl) rfl rfl rfl
        · exact step_small rfl 1 (by omega) rfl rfl
        · exact step_el rfl 51 9 rfl Go.Proofs.YtmhfjkhanlciiaaDoor.u50 i50 (by kernel_rfl) _ _ rfl _ E9 rfl
        · exact step_add rfl 49 50 7 8 _ _ rfl (by kernel_rfl) (by kernel_rfl) rfl rfl rfl
        · exact step_inv rfl 51 9 _ rfl (by kernel_rfl) rfl rfl
        · exact step_mul rfl 48 52 6 10 _ _ rfl (by kernel_rfl) (by kernel_rfl) rfl rfl rfl
        · exact step_new16 rfl rfl rfl
      intro qy8 q10 W8 v10 l10 n E10 T10
      replace CX := (n.cell (block_lt_of_cell CX)).trans CX
      replace CY := (n.cell (block_lt_of_cell CY)).trans CY
      replace CU := (n.cell (block_lt_of_cell CU)).trans CU
      replace CV := (n.cell (block_lt_of_cell CV)).trans CV
      replace OX := hide (of_up5 OX.out n)
      replace OY := hide (of_up5 OY.out n)
      replace OU := hide (of_up5 OU.out n)
      replace OV := hide (of_up5 OV.out n)
      replace E5 := E5.up n
      replace E6 := E6.up n
      replace E7 := E7.up n
      replace E8 := E8.up n
      replace E9 := E9.up n
      replace TR := there_up (by omega) TR n
      replace N := nxt N n
      clear n T10
      simp only [puts, v10, Act.put, List.setIfInBounds_toArray, List.set_cons_succ, List.set_cons_zero]
      clear v10
      go_upto_region 9 with fail
      refine region_new16 13 12 11 11 65 _ (fun i => [EL (num py), EL (num qy), EL ((num py) * (num qy)), EL (num px), EL (num qx), EL ((num px) * (num qx)), EL (((num py) * (num qy)) + ((num px) * (num qx))), EL 1, EL ((dE) * (((num px) * (num qx)) * ((num py) * (num qy)))), EL ((1) - ((dE) * (((num px) * (num qx)) * ((num py) * (num qy))))), EL (iv ((1) - ((dE) * (((num px) * (num qx)) * ((num py) * (num qy)))))), EL ((((num py) * (num qy)) + ((num px) * (num qx))) * (iv ((1) - ((dE) * (((num px) * (num qx)) * ((num py) * (num qy))))))), NB W8 16].getD i Fact.no) ((((num py) * (num qy)) + ((num px) * (num qx))) * (iv ((1) - ((dE) * (((num px) * (num qx)) * ((num py) * (num qy))))))) (by kernel_rfl) rfl rfl rfl (by kernel_rfl) (by kernel_rfl) rfl rfl ?_ ?_
      · intro i hi
        obtain rfl | rfl | rfl | rfl | rfl | rfl | rfl | rfl | rfl | rfl | rfl | rfl | rfl : i = 0 ∨ i = 1 ∨ i = 2 ∨ i = 3 ∨ i = 4 ∨ i = 5 ∨ i = 6 ∨ i = 7 ∨ i = 8 ∨ i = 9 ∨ i = 10 ∨ i = 11 ∨ i = 12 := by omega
        · exact step_el rfl 51 6 rfl Go.Proofs.YtmhfjkhanlciiaaDoor.u50 i50 (by kernel_rfl) _ _ rfl _ E6 rfl
        · exact step_el rfl 51 8 rfl Go.Proofs.YtmhfjkhanlciiaaDoor.u50 i50 (by kernel_rfl) _ _ rfl _ E8 rfl
        · exact step_mul rfl 54 55 0 1 _ _ rfl (by kernel_rfl) (by kernel_rfl) rfl rfl rfl
        · exact step_el rfl 51 5 rfl Go.Proofs.YtmhfjkhanlciiaaDoor.u50 i50 (by kernel_rfl) _ _ rfl _ E5 rfl
        · exact step_el rfl 51 7 rfl Go.Proofs.YtmhfjkhanlciiaaDoor.u50 i50 (by kernel_rfl) _ _ rfl _ E7 rfl
        · exact step_mul rfl 57 58 3 4 _ _ rfl (by kernel_rfl) (by kernel_rfl) rfl rfl rfl
        · exact step_add rfl 56 59 2 5 _ _ rfl (by kernel_rfl) (by kernel_rfl) rfl rfl rfl
        · exact step_small rfl 1 (by omega) rfl rfl
        · exact step_el rfl 51 9 rfl Go.Proofs.YtmhfjkhanlciiaaDoor.u50 i50 (by kernel_rfl) _ _ rfl _ E9 rfl
        · exact step_sub rfl 61 62 7 8 _ _ rfl (by kernel_rfl) (by kernel_rfl) rfl rfl rfl
        · exact step_inv rfl 63 9 _ rfl (by kernel_rfl) rfl rfl
        · exact step_mul rfl 60 64 6 10 _ _ rfl (by kernel_rfl) (by kernel_rfl) rfl rfl rfl
        · exact step_new16 rfl rfl rfl
      intro qy9 q11 W9 v11 l11 n E11 T11
      replace CX := (n.cell (block_lt_of_cell CX)).trans CX
      replace CY := (n.cell (block_lt_of_cell CY)).trans CY
      replace CU := (n.cell (block_lt_of_cell CU)).trans CU
      replace CV := (n.cell (block_lt_of_cell CV)).trans CV
      replace OX := hide (of_up5 OX.out n)
      replace OY := hide (of_up5 OY.out n)
      replace OU := hide (of_up5 OU.out n)
      replace OV := hide (of_up5 OV.out n)
      replace E5 := E5.up n
      replace E6 := E6.up n
      replace E7 := E7.up n
      replace E8 := E8.up n
      replace E9 := E9.up n
      replace E10 := E10.up n
      replace TR := there_up (by omega) TR n
      replace N := nxt N n
      clear n T11
      simp only [puts, v11, Act.put, List.setIfInBounds_toArray, List.set_cons_succ, List.set_cons_zero]
      clear v11
      go_upto_region 10 with fail
      refine region_putP 5 4 4 70 _ (fun i => [EL ((((num px) * (num qy)) + ((num py) * (num qx))) * (iv ((1) + ((dE) * (((num px) * (num qx)) * ((num py) * (num qy))))))), RN W9 (fun xs => xs = fill (byt (((((num px) * (num qy)) + ((num py) * (num qx))) * (iv ((1) + ((dE) * (((num px) * (num qx)) * ((num py) * (num qy))))))) % PP)) 32), EL ((((num py) * (num qy)) + ((num px) * (num qx))) * (iv ((1) - ((dE) * (((num px) * (num qx)) * ((num py) * (num qy))))))), RN W9 (fun xs => xs = fill (byt (((((num py) * (num qy)) + ((num px) * (num qx))) * (iv ((1) - ((dE) * (((num px) * (num qx)) * ((num py) * (num qy))))))) % PP)) 32), PT W9 (fun xs ys => xs = fill (byt (((((num px) * (num qy)) + ((num py) * (num qx))) * (iv ((1) + ((dE) * (((num px) * (num qx)) * ((num py) * (num qy))))))) % PP)) 32 ∧ ys = fill (byt (((((num py) * (num qy)) + ((num px) * (num qx))) * (iv ((1) - ((dE) * (((num px) * (num qx)) * ((num py) * (num qy))))))) % PP)) 32)].getD i Fact.no) (fun xs ys => xs = fill (byt (((((num px) * (num qy)) + ((num py) * (num qx))) * (iv ((1) + ((dE) * (((num px) * (num qx)) * ((num py) * (num qy))))))) % PP)) 32 ∧ ys = fill (byt (((((num py) * (num qy)) + ((num px) * (num qx))) * (iv ((1) - ((dE) * (((num px) * (num qx)) * ((num py) * (num qy))))))) % PP)) 32) _ (by kernel_rfl) rfl rfl rfl (by kernel_rfl) rfl TR (by kernel_rfl) rfl ?_ ?_
      · intro i hi
        obtain rfl | rfl | rfl | rfl | rfl : i = 0 ∨ i = 1 ∨ i = 2 ∨ i = 3 ∨ i = 4 := by omega
        · exact step_el rfl 51 10 rfl Go.Proofs.YtmhfjkhanlciiaaDoor.u50 i50 (by kernel_rfl) _ _ rfl _ E10 rfl
        · exact step_bytes rfl 66 0 _ rfl (by kernel_rfl) rfl rfl
        · exact step_el rfl 51 11 rfl Go.Proofs.YtmhfjkhanlciiaaDoor.u50 i50 (by kernel_rfl) _ _ rfl _ E11 rfl
        · exact step_bytes rfl 68 2 _ rfl (by kernel_rfl) rfl rfl
        · exact step_bp rfl 67 69 1 3 _ _ rfl (by kernel_rfl) (by kernel_rfl) rfl rfl rfl
      rintro vt Wa Wb ps qs b1 b2 d1 d2 h1 h2 n bq rg o1 o2 l1 l2 ⟨rfl, rfl⟩ nb
      have NS := nb w w.heap.size (nxt N n) (by omega)
      simp only [puts, Act.put, List.setIfInBounds_toArray, List.set_cons_succ, List.set_cons_zero]
      have z1 := N.size
      clear N n bq nb TR CX CY CU CV OX OY OU OV E5 E6 E7 E8 E9 E10 E11
      rw [show fill (byt (((((num px) * (num qy)) + ((num py) * (num qx))) * (iv ((1) + ((dE) * (((num px) * (num qx)) * ((num py) * (num qy))))))) % PP)) 32 = paX px py qx qy from KX.out.symm] at o1 rg
      rw [show fill (byt (((((num py) * (num qy)) + ((num px) * (num qx))) * (iv ((1) - ((dE) * (((num px) * (num qx)) * ((num py) * (num qy))))))) % PP)) 32 = paY px py qx qy from KY.out.symm] at o2 rg
      clear KX KY
      go_wp2
      obtain ⟨fs, hfs⟩ := uP
      exact bodyPost_ret (v := .agg #[_, _]) (results_cell_mid Tryd.results29 _ _ (w.heap.size + 1 + 1) _ _ rfl rg hfs rfl iP) rfl ⟨⟨b1, b2, d1, d2, h1, h2, rfl, o1, o2, by omega, by omega⟩, NS⟩
end Go.Proofs.YtmhfjkhanlciiaaDoor

/-
  The program's sum of two points is the model's. Numbers alone.
-/
namespace Go.Proofs.YtmhfjkhanlciiaaDoor
set_option maxRecDepth 100000

theorem iv_eInv (z : Int) : iv z = z ^ eInv := by
  unfold iv
  rw [show eIv = eInv from by decide +kernel]
/-- A point in extended coordinates, told by two. -/
theorem ex_plain {X Y Z T : Int} {q : Int × Int} (h : Ex X Y Z T q) : X * Z ^ eInv % PP = q.1 % PP ∧ Y * Z ^ eInv % PP = q.2 % PP := by
  have k := pj_plain h.pj
  simp only [iv_eInv] at k
  exact k
theorem add_mod (p q : Int × Int) : addX p q % PP = (eadd (-1) d0 einv p q).1 % PP ∧ addY p q % PP = (eadd (-1) d0 einv p q).2 % PP := by
  have h := pAdd_pe p q
  have h1 := cong_dvd h.1
  have h2 := cong_dvd h.2
  unfold pAdd at h1 h2
  simp only [Int.emod_emod_of_dvd _ (Int.dvd_refl PP)] at h1 h2
  exact ⟨h1, h2⟩
theorem ps_ok {p q : Int × Int} (hp : OnP PP (-1) d0 p) (hq : OnP PP (-1) d0 q) :
    psX dGo p.1 p.2 q.1 q.2 * psZ dGo p.1 p.2 q.1 q.2 ^ eInv % PP = addX p q % PP ∧ psY dGo p.1 p.2 q.1 q.2 * psZ dGo p.1 p.2 q.1 q.2 ^ eInv % PP = addY p q % PP := by
  have e := ex_plain (ex_sum dGo_is hp hq (ex_one p) (ex_one q))
  have a := add_mod p q
  exact ⟨e.1.trans a.1.symm, e.2.trans a.2.symm⟩
theorem adX_eq (xs ys us vs : List Int) : adX dGo xs ys us vs = paX xs ys us vs := by
  unfold adX paX
  rw [rp_valid, rp_valid]
  by_cases h : validP xs ys = true ∧ validP us vs = true
  · rw [if_pos h, if_pos (by simp [h.1, h.2]), rpX_of h.1, rpY_of h.1, rpX_of h.2, rpY_of h.2]
    rw [(ps_ok (on_of h.1) (on_of h.2)).1]
  · rw [if_neg h, if_neg (by simpa using h)]
theorem adY_eq (xs ys us vs : List Int) : adY dGo xs ys us vs = paY xs ys us vs := by
  unfold adY paY
  rw [rp_valid, rp_valid]
  by_cases h : validP xs ys = true ∧ validP us vs = true
  · rw [if_pos h, if_pos (by simp [h.1, h.2]), rpX_of h.1, rpY_of h.1, rpX_of h.2, rpY_of h.2]
    rw [(ps_ok (on_of h.1) (on_of h.2)).2]
  · rw [if_neg h, if_neg (by simpa using h)]
theorem pa_len1 (xs ys us vs : List Int) : (paX xs ys us vs).length ≤ 1048576 := by
  unfold paX
  split
  · rw [fill_len]; omega
  · simp
theorem pa_len2 (xs ys us vs : List Int) : (paY xs ys us vs).length ≤ 1048576 := by
  unfold paY
  split
  · rw [fill_len]; omega
  · simp
end Go.Proofs.YtmhfjkhanlciiaaDoor

/-
  The law of PointToLadder.
-/
namespace Go.Proofs.YtmhfjkhanlciiaaDoor
set_option maxRecDepth 100000
open Go Go.RowKit

theorem tlA_eq (xs ys : List Int) : tlA dGo xs ys = toLad xs ys := by
  unfold tlA toLad
  rw [rp_valid]
  by_cases h : validP xs ys = true
  · rw [if_pos h, if_pos h, rpY_of h, iv_eInv]
  · rw [if_neg h, if_neg h]
theorem tl_len (xs ys : List Int) : (toLad xs ys).length ≤ 1048576 := by
  unfold toLad
  split
  · rw [fill_len]; omega
  · simp
/-- The tables that sums of points need. -/
def HasA (w : World) : Prop := HasTw w 3 ∧ Em5 w 2 0 dGo ∧ HasSt w 7 ∧ Has3 w 4 12 5 4
theorem hasA_of {l : List (String × DataW Unit)} {W : World} (h : laidMetH Tryd.prog l W) (hp : (l.all fun x => x.2.handleName?.isNone) = true)
    (h1 : ("loop.example/g00004/impl.chainSteps", Rows.laid_loop_example_g00004_impl_chainSteps) ∈ l) (h2 : ("loop.example/g00004/impl.inverseStep", Rows.laid_loop_example_g00004_impl_inverseStep) ∈ l)
    (h3 : ("loop.example/g00004/impl.twiceP", Rows.laid_loop_example_g00004_impl_twiceP) ∈ l) (h4 : ("loop.example/g00004/impl.curveFactor", Rows.laid_loop_example_g00004_impl_curveFactor) ∈ l) : HasA W :=
  ⟨tw_of_reads (reads_of h hp h3), cf_of_reads (reads_of h hp h4), st_of_reads (reads_of h hp h1), three_of_reads gIn tIn (reads_of h hp h2)⟩
theorem laid_ptl {W : World} (h : laidMetH Tryd.prog Rows.fnExactPointToLadderRow.laid W) : HasA W := hasA_of h (by kernel_rfl) (.head _) (.tail _ (.head _)) (.tail _ (.tail _ (.head _))) (.tail _ (.tail _ (.tail _ (.head _))))
set_option maxHeartbeats 8000000 in
theorem ptl_law (w : World) (g0 : Nat) (a0 : Option Addr) (c0 : Nat) (X0 : List Int) (hX0 : Rd w g0 a0 .u8 X0) (bX0 : Byt X0) (lX0 : X0.length < 9223372036854775808) (g0' : Nat) (a0' : Option Addr) (c0' : Nat) (Y0 : List Int) (hY0 : Rd w g0' a0' .u8 Y0) (bY0 : Byt Y0) (lY0 : Y0.length < 9223372036854775808) (hL : HasA w) :
    Calls Tryd.prog 6 #[.agg #[.slice a0 X0.length c0, .slice a0' Y0.length c0']] w fun e w' => e = .returned (.bool true) ∧ Below w.heap.size w w' := by
  have SP := fun W g1 g2 a1 a2 c1 c2 h1 h2 => pointToLadder_any W g1 g2 a1 a2 c1 c2 X0 Y0 h1 h2 bX0 bY0
  have IM := fun W g1 g2 a1 a2 c1 c2 h1 h2 (n : Below w.heap.size w W) => implToLadder_any W g1 g2 a1 a2 c1 c2 X0 Y0 h1 h2 bX0 bY0 dGo (hL.1.up n) (hL.2.1.up n) (hL.2.2.1.up n) (hL.2.2.2.up n)
  simp only [tlA_eq] at IM
  have lrx : (toLad X0 Y0).length ≤ 1048576 := tl_len _ _
  obtain ⟨rx, hrx⟩ : ∃ l, l = toLad X0 Y0 := ⟨_, rfl⟩
  simp only [← hrx] at SP IM lrx
  clear hrx
  clear hL
  by_cases q0 : (X0.length + Y0.length) ≤ 1048576
  · skip
    have SZ0 := fun W => szPoint_any W a0 a0' X0.length c0 Y0.length c0' ((1048576 : Int)) lX0 lY0 (by omega) (by omega)
    rw [if_neg (show ¬ ((1048576 : Int)) < (X0.length : Int) + (Y0.length : Int) by omega)] at SZ0
    have t0 : decide (((1048576 : Int)) - (X0.length : Int) - (Y0.length : Int) < 0) = false := by simp; omega
    go_enter Tryd.func6, Tryd.ntmps6
    go_upto_region 1 with fail
    have B0 := Two.new w (.slice a0 X0.length c0) (.slice a0' Y0.length c0') 24
    have nb0 : Below w.heap.size w (w.alloc (.cells #[.slice a0 X0.length c0, .slice a0' Y0.length c0'] 24)) := (Below.refl _ _).alloc (Nat.le_refl _) _
    have sb0 : (w.alloc (.cells #[.slice a0 X0.length c0, .slice a0' Y0.length c0'] 24)).heap.size = w.heap.size + 1 := by simp
    generalize w.alloc (.cells #[.slice a0 X0.length c0, .slice a0' Y0.length c0'] 24) = v0 at *
    have N := nb0
    have zv : w.heap.size + 1 ≤ v0.heap.size := by omega
    clear nb0 sb0
    have B00 := B0.c0
    have B01 := B0.c1
    go_wp2_with fail
    refine (SZ0 v0).mono ?_
    rintro e w1 ⟨rfl, n1⟩
    clear B00 B01
    replace B0 := B0.up n1
    replace N := nxt N n1
    have zn1 := n1.size
    clear n1
    have B00 := B0.c0
    have B01 := B0.c1
    go_wp2_with fail
    refine (toPoint_any w1 g0 g0' a0 a0' c0 c0' X0 Y0 (hX0.up N) (hY0.up N) (by omega) (by omega)).mono ?_
    rintro e w2 ⟨m0p, m0q, rfl, m0x, m0y, m01, m02, n2⟩
    clear B00 B01
    replace B0 := B0.up n2
    replace N := nxt N n2
    have zn2 := n2.size
    clear n2
    have m03 := m0y.lt
    have m04 := m0x.lt
    go_wp2_with fail
    refine (SP w2 _ _ _ _ _ _ m0x.own0.rd m0y.own0.rd).mono ?_
    rintro e w3 ⟨⟨sa, sc, sg, rfl, o4, sk1, sk2, sl⟩, n3⟩
    replace B0 := B0.up n3
    replace m0x := m0x.up n3
    replace m0y := m0y.up n3
    replace N := nxt N n3
    have zn3 := n3.size
    clear n3
    clear sk1 sk2
    have Y4 := hide o4.rd.lt
    clear m0x m0y
    have B00 := B0.c0
    have B01 := B0.c1
    go_wp2_with fail
    refine (toPoint_any w3 g0 g0' a0 a0' c0 c0' X0 Y0 (hX0.up N) (hY0.up N) (by omega) (by omega)).mono ?_
    rintro e w4 ⟨x0p, x0q, rfl, x0x, x0y, x01, x02, n4⟩
    clear B00 B01
    replace B0 := B0.up n4
    replace o4 := o4.up n4
    replace N := nxt N n4
    have zn4 := n4.size
    clear n4
    have x03 := x0y.lt
    have x04 := x0x.lt
    have T50 := Two.new w4 (.slice (some ⟨x0p, 0, none⟩) X0.length X0.length) (.slice (some ⟨x0q, 0, none⟩) Y0.length Y0.length) 27
    have n5 : Below w4.heap.size w4 (w4.alloc (.cells #[.slice (some ⟨x0p, 0, none⟩) X0.length X0.length, .slice (some ⟨x0q, 0, none⟩) Y0.length Y0.length] 27)) := (Below.refl _ _).alloc (Nat.le_refl _) _
    replace B0 := B0.up n5
    replace o4 := o4.up n5
    replace x0x := x0x.up n5
    replace x0y := x0y.up n5
    replace N := nxt N n5
    clear n5
    have T500 := T50.c0
    have T501 := T50.c1
    go_wp2_with fail
    generalize w4.alloc (.cells #[.slice (some ⟨x0p, 0, none⟩) X0.length X0.length, .slice (some ⟨x0q, 0, none⟩) Y0.length Y0.length] 27) = w5 at *
    have uT50 := T50.lt
    refine (IM w5 _ _ _ _ _ _ x0x.own0.rd x0y.own0.rd N).mono ?_
    rintro e w6 ⟨⟨i6a, i6c, i6g, rfl, o6, i6k1, i6k2, i6l⟩, n6⟩
    clear T500 T501
    replace B0 := B0.up n6
    replace o4 := o4.up n6
    replace x0x := x0x.up n6
    replace x0y := x0y.up n6
    replace T50 := T50.up n6
    replace N := nxt N n6
    have zn6 := n6.size
    clear n6
    clear i6k1 i6k2
    go_wp2_with fail
    refine (eqByteS_same w6 _ _ _ _ _ _ rx o6.rd o4.rd lrx).mono ?_
    rintro e w7 ⟨rfl, n7⟩
    replace B0 := B0.up n7
    replace o4 := o4.up n7
    replace x0x := x0x.up n7
    replace x0y := x0y.up n7
    replace T50 := T50.up n7
    replace o6 := o6.up n7
    replace N := nxt N n7
    have zn7 := n7.size
    clear n7
    go_upto_region 10 with fail
    refine region_end 5 (fun i => [Fact.eq (.agg #[.slice (some ⟨x0p, 0, none⟩) X0.length X0.length, .slice (some ⟨x0q, 0, none⟩) Y0.length Y0.length]), Fact.eq (.agg #[.slice a0 X0.length c0, .slice a0' Y0.length c0']), PR X0 Y0, Fact.eq (.bool true), Fact.eq (.bool (!true))].getD i Fact.no) (by kernel_rfl) (by kernel_rfl) rfl ?_ ?_
    · intro i hi
      obtain rfl | rfl | rfl | rfl | rfl : i = 0 ∨ i = 1 ∨ i = 2 ∨ i = 3 ∨ i = 4 := by omega
      · exact step_l2 _ uP iP rfl 5 rfl (by kernel_rfl) _ rfl _ _ T50 rfl
      · exact step_l2 _ uLP iLP rfl 1 rfl (by kernel_rfl) _ rfl _ _ B0 rfl
      · exact step_toP rfl 28 1 rfl (by kernel_rfl) (hX0.up N) (hY0.up N) (by omega) (by omega) rfl rfl
      · exact step_eqP rfl 27 29 0 2 rfl (by kernel_rfl) (by kernel_rfl) (g := x0p) (g' := x0q) ⟨x0x.own0, x0y.own0⟩ (by omega) (by omega) rfl rfl rfl
      · exact step_notb rfl 30 3 rfl (by kernel_rfl) rfl rfl
    intro A w8 hb n8 hF
    have e2 := hF 4 31 (by kernel_rfl)
    obtain ⟨vs, hvs⟩ : ∃ vs : Nat → Value, ∀ d, A.tmps.getD d undef = vs d := ⟨_, fun _ => rfl⟩
    rw [hvs] at e2
    rw [puts_of (md := .any) (k := 5) (by kernel_rfl) rfl hb vs hvs]
    clear hb hF hvs
    have e3 : vs 31 = .bool false := e2
    clear e2
    simp only [puts, e3, Act.put, List.setIfInBounds_toArray, List.set_cons_succ, List.set_cons_zero]
    clear e3
    replace B0 := B0.up n8
    replace o4 := o4.up n8
    replace x0x := x0x.up n8
    replace x0y := x0y.up n8
    replace T50 := T50.up n8
    replace o6 := o6.up n8
    replace N := nxt N n8
    have zn8 := n8.size
    clear n8
    have T500 := T50.c0
    have T501 := T50.c1
    go_wp2_with fail
    refine (markPoint_any w8 x0p x0q _ _ _ _ X0 Y0 (1) ⟨x0x.own0, x0y.own0⟩ (by omega) (by omega) (by omega) (by omega) (fun _ => by omega) (fun _ => by omega) (by omega)).mono ?_
    rintro e w9 ⟨rfl, _, O9⟩
    have zz9 := O9.size
    clear T500 T501
    clear x0x x0y T50
    have NN := N.size
    replace N := N.trans (O9.below (B := w.heap.size) (by omega) (by omega) (by omega))
    clear NN
    replace B0 := B0.butP O9 (by omega) (by omega)
    replace o4 := o4.butP O9 (fun h => ⟨by have := Y4.out h; omega, by have := Y4.out h; omega⟩)
    replace o6 := o6.butP O9 (fun h => ⟨by omega, by omega⟩)
    clear O9
    have tk : decide ((1 + (X0.length : Int) + (Y0.length : Int) : Int) < 0) = false := by simp; omega
    go_wp2_with fail
    refine (eqByteS_same w9 _ _ _ _ _ _ rx o6.rd o4.rd lrx).mono ?_
    rintro e w10 ⟨rfl, n10⟩
    replace B0 := B0.up n10
    replace o4 := o4.up n10
    replace o6 := o6.up n10
    replace N := nxt N n10
    have zn10 := n10.size
    clear n10
    go_wp2_with fail
    refine (markByteS_any w10 _ _ _ rx 1 o6 lrx (by omega) (by omega)).mono ?_
    rintro e w11 ⟨rfl, oH, OH⟩
    have zzH := OH.size
    clear o6
    have NN := N.size
    replace N := N.trans (OH.below (B := w.heap.size) (by omega))
    clear NN
    replace B0 := B0.only OH (by omega)
    replace o4 := o4.only OH (fun h => by have := Y4.out h; omega)
    clear OH
    have t4 : decide ((1 : Int) + (rx.length : Int) < 0) = false := by simp; omega
    go_wp2_with fail
    refine (heldByteS_any w11 _ _ _ rx.length 1 oH.rd lrx (by omega) (by omega)).mono ?_
    rintro e w12 ⟨rfl, eW⟩
    subst eW
    have B00 := B0.c0
    have B01 := B0.c1
    go_wp2_with fail
    refine (toPoint_any w12 g0 g0' a0 a0' c0 c0' X0 Y0 (hX0.up N) (hY0.up N) (by omega) (by omega)).mono ?_
    rintro e w13 ⟨y0p, y0q, rfl, y0x, y0y, y01, y02, n13⟩
    clear B00 B01
    replace B0 := B0.up n13
    replace o4 := o4.up n13
    replace oH := oH.up n13
    replace N := nxt N n13
    have zn13 := n13.size
    clear n13
    have y03 := y0y.lt
    have y04 := y0x.lt
    go_wp2_with fail
    refine (IM w13 _ _ _ _ _ _ y0x.own0.rd y0y.own0.rd N).mono ?_
    rintro e w14 ⟨⟨i9a, i9c, i9g, rfl, o9, i9k1, i9k2, i9l⟩, n14⟩
    replace B0 := B0.up n14
    replace o4 := o4.up n14
    replace oH := oH.up n14
    replace y0x := y0x.up n14
    replace y0y := y0y.up n14
    replace N := nxt N n14
    have zn14 := n14.size
    clear n14
    clear i9k1 i9k2
    clear y0x y0y
    go_wp2_with fail
    refine (eqByteS_same w14 _ _ _ _ _ _ rx o9.rd o4.rd lrx).mono ?_
    rintro e w15 ⟨rfl, n15⟩
    replace B0 := B0.up n15
    replace o4 := o4.up n15
    replace oH := oH.up n15
    replace o9 := o9.up n15
    replace N := nxt N n15
    have zn15 := n15.size
    clear n15
    clear o9 o4
    go_wp2_with fail
    refine (heldByteS_any w15 _ _ _ rx.length 1 oH.rd lrx (by omega) (by omega)).mono ?_
    rintro e w16 ⟨rfl, eW⟩
    subst eW
    go_wp2
    go_ret
    exact ⟨rfl, N⟩
  · skip
    have SZ0 := fun W => szPoint_any W a0 a0' X0.length c0 Y0.length c0' ((1048576 : Int)) lX0 lY0 (by omega) (by omega)
    rw [if_pos (show ((1048576 : Int)) < (X0.length : Int) + (Y0.length : Int) by omega)] at SZ0
    go_enter Tryd.func6, Tryd.ntmps6
    go_upto_region 1 with fail
    have B0 := Two.new w (.slice a0 X0.length c0) (.slice a0' Y0.length c0') 24
    have nb0 : Below w.heap.size w (w.alloc (.cells #[.slice a0 X0.length c0, .slice a0' Y0.length c0'] 24)) := (Below.refl _ _).alloc (Nat.le_refl _) _
    have sb0 : (w.alloc (.cells #[.slice a0 X0.length c0, .slice a0' Y0.length c0'] 24)).heap.size = w.heap.size + 1 := by simp
    generalize w.alloc (.cells #[.slice a0 X0.length c0, .slice a0' Y0.length c0'] 24) = v0 at *
    have N := nb0
    have zv : w.heap.size + 1 ≤ v0.heap.size := by omega
    clear nb0 sb0
    have B00 := B0.c0
    have B01 := B0.c1
    go_wp2_with fail
    refine (SZ0 v0).mono ?_
    rintro e w1 ⟨rfl, n1⟩
    clear B00 B01
    replace B0 := B0.up n1
    replace N := nxt N n1
    have zn1 := n1.size
    clear n1
    go_wp2
    go_ret
    exact ⟨rfl, N⟩
end Go.Proofs.YtmhfjkhanlciiaaDoor

/-
  The law by facts for a region that draws its order and ends with a store and an assignment, where one operation that touches no memory may come behind the store. No program in sight.
-/
namespace Go.Proofs.YtmhfjkhanlciiaaDoor
set_option maxRecDepth 100000
open Go Go.RowKit

section
variable {P : Program} {ops : Array Oper} {Q : Exit → Act → World → Prop} {md : Region.Mode} {F : Nat → Fact} {a0 : Act} {w0 : World}

/-- Number k, the store, waits for all ahead of it but x; number k + 1, the last, for k and x. -/
def textLate (md : Region.Mode) (ops : Array Oper) (n k x : Nat) : Bool :=
  (ops.all fun o => o.guard.isNone && (match o.dst with | some d => decide (d < n) | none => true))
  && ((List.range ops.size).all fun i => match ops[i]? with
    | some o => o.after.all (fun e => !Region.binds md e || decide (e.on < i)) && (List.range i).all fun j => match ops[j]? with
      | some x => x.dst.isNone || o.dst != x.dst
      | none => true
    | none => true)
  && decide (ops.size = k + 2 ∧ x < k)
  && ((List.range k).all fun j => j == x || (List.range (k + 1)).any fun m => decide (j < m) && m != x && match ops[m]? with
    | some o => o.after.any (fun e => Region.binds md e && e.on == j)
    | none => false)
  && (match ops[k + 1]? with | some o => o.after.any (fun e => Region.binds md e && e.on == k) && o.after.any (fun e => Region.binds md e && e.on == x) | none => false)
  && (match ops[k]? with | some o => o.dst.isNone && o.after.all (fun e => !Region.binds md e || e.on != x) | none => false)
  && ((List.range k).all fun j => match ops[j]? with | some o => o.after.all (fun e => !Region.binds md e || e.on != x) | none => false)
structure TextL (md : Region.Mode) (ops : Array Oper) (n k x : Nat) : Prop where
  g : ∀ (i : Nat) o, ops[i]? = some o → o.guard = none
  d : ∀ (i : Nat) o d, ops[i]? = some o → o.dst = some d → d < n
  a : ∀ (i : Nat) o, ops[i]? = some o → ∀ e ∈ o.after, Region.binds md e = true → e.on < i
  dx : ∀ (i j : Nat) o o' d, ops[i]? = some o → ops[j]? = some o' → i ≠ j → o.dst = some d → o'.dst ≠ some d
  k2 : ops.size = k + 2
  kx : x < k
  c : ∀ j, j < k → j ≠ x → ∃ (m : Nat) (o : Oper), j < m ∧ m ≤ k ∧ m ≠ x ∧ ops[m]? = some o ∧ ∃ e ∈ o.after, Region.binds md e = true ∧ e.on = j
  l : ∀ o, ops[k + 1]? = some o → (∃ e ∈ o.after, Region.binds md e = true ∧ e.on = k) ∧ ∃ e ∈ o.after, Region.binds md e = true ∧ e.on = x
  n1 : ∀ o, ops[k]? = some o → o.dst = none
  f : ∀ j o, j ≤ k → ops[j]? = some o → ∀ e ∈ o.after, Region.binds md e = true → e.on ≠ x
theorem textL_of {n k x : Nat} (h : textLate md ops n k x = true) : TextL md ops n k x := by
  unfold textLate at h
  simp only [Bool.and_eq_true, decide_eq_true_eq] at h
  obtain ⟨⟨⟨⟨⟨⟨h1, h2⟩, h3⟩, h4⟩, h5⟩, h6⟩, h7⟩ := h
  rw [Array.all_eq_true_iff_forall_mem] at h1
  rw [List.all_eq_true] at h2 h4 h7
  have H : ∀ (i j : Nat) o o' d, j < i → ops[i]? = some o → ops[j]? = some o' → o.dst = some d → o'.dst ≠ some d := by
    intro i j o o' d hij hi hj hd hd'
    have q := h2 i (List.mem_range.2 (Array.getElem?_eq_some_iff.1 hi).1)
    simp only [hi, Bool.and_eq_true] at q
    have r := List.all_eq_true.1 q.2 j (List.mem_range.2 hij)
    simp only [hj, hd, hd'] at r
    simp at r
  have ne : ∀ (o : Oper), o.after.all (fun e => !Region.binds md e || e.on != x) = true → ∀ e ∈ o.after, Region.binds md e = true → e.on ≠ x := by
    intro o h e he hb
    have r := (Array.all_eq_true_iff_forall_mem.1 h) e he
    rw [hb] at r
    simpa using r
  refine ⟨?_, ?_, ?_, ?_, h3.1, h3.2, ?_, ?_, ?_, ?_⟩
  · intro i o ho
    have q := h1 o (Array.mem_of_getElem? ho)
    simp only [Bool.and_eq_true] at q
    exact Option.isNone_iff_eq_none.1 q.1
  · intro i o d ho hd
    have q := h1 o (Array.mem_of_getElem? ho)
    simp only [Bool.and_eq_true, hd, decide_eq_true_eq] at q
    exact q.2
  · intro i o ho e he hb
    have q := h2 i (List.mem_range.2 (Array.getElem?_eq_some_iff.1 ho).1)
    simp only [ho, Bool.and_eq_true] at q
    have r := (Array.all_eq_true_iff_forall_mem.1 q.1) e he
    rw [hb] at r
    simpa using r
  · intro i j o o' d hi hj hij hd hd'
    rcases Nat.lt_or_gt_of_ne hij with h | h
    · exact H j i o' o d h hj hi hd' hd
    · exact H i j o o' d h hi hj hd hd'
  · intro j hj hjx
    have q := h4 j (List.mem_range.2 hj)
    simp only [Bool.or_eq_true, beq_iff_eq] at q
    rcases q with q | q
    · exact absurd q hjx
    obtain ⟨m, hm, r⟩ := List.any_eq_true.1 q
    simp only [Bool.and_eq_true, decide_eq_true_eq, bne_iff_ne] at r
    cases ho : ops[m]? with
    | none => rw [ho] at r; simp at r
    | some o =>
      rw [ho] at r
      obtain ⟨e, he, hb⟩ := Array.any_eq_true'.1 r.2
      simp only [Bool.and_eq_true, beq_iff_eq] at hb
      exact ⟨m, o, r.1.1, by have := List.mem_range.1 hm; omega, r.1.2, ho, e, he, hb.1, hb.2⟩
  · intro o ho
    rw [ho] at h5
    simp only [Bool.and_eq_true] at h5
    obtain ⟨e, he, hb⟩ := Array.any_eq_true'.1 h5.1
    obtain ⟨e', he', hb'⟩ := Array.any_eq_true'.1 h5.2
    simp only [Bool.and_eq_true, beq_iff_eq] at hb hb'
    exact ⟨⟨e, he, hb.1, hb.2⟩, e', he', hb'.1, hb'.2⟩
  · intro o ho
    rw [ho] at h6
    simp only [Bool.and_eq_true] at h6
    exact Option.isNone_iff_eq_none.1 h6.1
  · intro j o hj ho
    rcases Nat.lt_or_ge j k with c | c
    · have q := h7 j (List.mem_range.2 c)
      rw [ho] at q
      exact ne o q
    · obtain rfl : j = k := by omega
      rw [ho] at h6
      simp only [Bool.and_eq_true] at h6
      exact ne o h6.2
theorem any_late {n k x : Nat} (T : TextL md ops n k x) (hn : n ≤ a0.tmps.size) (steps : ∀ i, i < k → StepOk P md ops Q F a0 w0 i) (o1 o2 : Oper) (hk1 : ops[k]? = some o1) (hk2 : ops[k + 1]? = some o2) (dx : Nat) (wx : writes ops x dx = true) (R : Act → World → Prop)
    (hR : ∀ a W W' v, Below W.heap.size W W' → R a W → R (a.put (some dx) v) W')
    (sx : ∀ j d v w w', waits md ops x j d = true → (F j).p v w → (F j).p v w') (fx : ∀ v w w', (F x).p v w → (F x).p v w')
    (fin : ∀ a w, Based ops a0 a → Below w0.heap.size w0 w → (∀ i o d, i < k → i ≠ x → ops[i]? = some o → o.dst = some d → (F i).p (a.tmps.getD d undef) w) →
      ∀ K : Act → World → Prop, (∀ W, Below w0.heap.size w0 W → R a W → K a W) → o1.wp P a w K Q)
    (last : ∀ a W, Based ops a0 a → R a W → (F x).p (a.tmps.getD dx undef) W → o2.wp P a W (fun a' w' => Q .normal a' w') Q) :
    ∀ (fuel : Nat) (listed : Array Bool) (a : Act) (w : World), left listed ops.size ≤ fuel → Held md ops F a0 w0 listed a w → listed.getD k false = false → listed.getD (k + 1) false = false → wpAny P md ops Q fuel listed a w := by
  obtain ⟨ox, hox, hdx⟩ := writes_is wx
  have hks : k < ops.size := by have := T.k2; omega
  have hks' : k + 1 < ops.size := by have := T.k2; omega
  intro fuel
  induction fuel with
  | zero =>
    intro listed a w hl H hk hk'
    have := left_zero (listed := listed) (n := ops.size) (by omega) k hks
    rw [dflt (by rw [H.s]; exact hks), hk] at this
    simp at this
  | succ fuel ih =>
    intro listed a w hl H hk hk'
    refine ⟨fun hr => ?_, fun i hi => ?_⟩
    · exfalso
      have hall : ∀ m i, i < m → i ≤ k → listed.getD i false = true := by
        intro m
        induction m with
        | zero => intro i hi; omega
        | succ m ihm =>
          intro i hi hik
          rcases Nat.lt_or_ge i m with h1 | h1
          · exact ihm i h1 hik
          · obtain rfl : i = m := by omega
            cases hc : listed.getD i false
            · exfalso
              obtain ⟨o, ho⟩ : ∃ o, ops[i]? = some o := ⟨ops[i], by simp [show i < ops.size by omega]⟩
              have hr' : i ∈ Region.ready md ops listed := mem_ready.2 ⟨by rw [dflt (by rw [H.s]; omega)]; exact hc, o, ho, fun e he hb => ihm e.on (T.a i o ho e he hb) (by have := T.a i o ho e he hb; omega)⟩
              rw [hr] at hr'
              simp at hr'
            · rfl
      rw [hall (k + 1) k (by omega) (Nat.le_refl _)] at hk
      simp at hk
    · obtain ⟨h0, o, ho, hall⟩ := mem_ready.1 hi
      have hlt := (Array.getElem?_eq_some_iff.1 ho).1
      have hwant : Region.wanted o (yielded ops a.tmps) = true := by simp [Region.wanted, T.g i o ho]
      refine wpOp_step ho fun K' hK => ?_
      rw [if_pos hwant]
      have hll := left_set (by rw [H.s]; exact hlt) h0 ops.size hlt
      have hfacts : ∀ j d, waits md ops i j d = true → (F j).p (a.tmps.getD d undef) w := by
        intro j d hjd
        unfold waits at hjd
        rw [ho] at hjd
        cases hoj : ops[j]? with
        | none => rw [hoj] at hjd; simp at hjd
        | some oj =>
          rw [hoj] at hjd
          simp only [Bool.and_eq_true, beq_iff_eq] at hjd
          obtain ⟨e, he, hb⟩ := Array.any_eq_true'.1 hjd.1
          simp only [Bool.and_eq_true, beq_iff_eq] at hb
          exact H.f j oj d hoj (by rw [← hb.2]; exact hall e he hb.1) hjd.2
      have TT : TextT md false ops n k := ⟨T.g, T.d, T.a, T.dx, by omega, (fun h => by cases h), (fun h => by cases h)⟩
      rcases Nat.lt_or_ge i k with h1 | h1
      · refine steps i h1 o ho a w H.b H.n hfacts K' fun v w' hw hf => ?_
        refine hK _ _ (ih _ _ _ (by omega) (H.nextT TT hn ho hi hw hf) ?_ ?_)
        · rw [getD_off (by omega)]
          exact hk
        · rw [getD_off (by omega)]
          exact hk'
      · rcases Nat.lt_or_ge k i with h2 | h2
        · exfalso
          obtain rfl : i = k + 1 := by have := T.k2; omega
          obtain ⟨⟨e, he, hb, hq⟩, _⟩ := T.l o ho
          have := hall e he hb
          rw [hq, hk] at this
          simp at this
        · obtain rfl : i = k := by omega
          obtain rfl := Option.some.inj (hk1.symm.trans ho)
          have hahead : ∀ m j, i - j ≤ m → j < i → j ≠ x → listed.getD j false = true := by
            intro m
            induction m with
            | zero => intro j hm hj; omega
            | succ m ihm =>
              intro j hm hj hjx
              obtain ⟨p, oo, hjp, hpk, hpx, hoo, e, he, hb, rfl⟩ := T.c j hj hjx
              rcases Nat.lt_or_ge p i with h1 | h1
              · exact H.c p oo hoo (ihm p (by omega) h1 hpx) e he hb
              · obtain rfl : p = i := by omega
                obtain rfl := Option.some.inj (ho.symm.trans hoo)
                exact hall e he hb
          have q := fin a w H.b H.n (fun j oj d hj hjx hoj hd => H.f j oj d hoj (hahead (i - j) j (Nat.le_refl _) hj hjx) hd)
          refine q _ fun W hW hRW => hK _ _ ?_
          have hs2 : (listed.setIfInBounds i true).size = ops.size := by simp [H.s]
          have g1 : (listed.setIfInBounds i true).getD (i + 1) true = false := by
            rw [getD_off (by omega), dflt (by rw [H.s]; exact hks')]
            exact hk'
          have hall2 : ∀ j, j ≠ i + 1 → j ≠ x → j < ops.size → (listed.setIfInBounds i true).getD j true = true := by
            intro j hj hjx hjs
            by_cases e : i = j
            · subst e
              exact getD_same (by rw [H.s]; exact hlt) _
            · rw [getD_off e, dflt (by rw [H.s]; exact hjs)]
              exact hahead (i - j) j (Nat.le_refl _) (by have := T.k2; omega) hjx
          have gx : (listed.setIfInBounds i true).getD x true = listed.getD x false := by
            rw [getD_off (by have := T.kx; omega), dflt (by rw [H.s]; have := T.kx; omega)]
          -- the last one alone is left
          have fin2 : ∀ (l2 : Array Bool) (fuel : Nat) (b : Act) (V : World), l2.size = ops.size → (∀ j, j ≠ i + 1 → j < ops.size → l2.getD j true = true) → l2.getD (i + 1) true = false → left l2 ops.size ≤ fuel → Based ops a0 b → R b V → (F x).p (b.tmps.getD dx undef) V → wpAny P md ops Q fuel l2 b V := by
            intro l2 fuel b V hs2 hl2 hg hf hb hRb hfx
            have l1 : 0 < left l2 ops.size := by
              rcases Nat.eq_zero_or_pos (left l2 ops.size) with z | z
              · have := left_zero (n := ops.size) z (i + 1) hks'
                rw [hg] at this
                simp at this
              · exact z
            obtain ⟨f2, rfl⟩ : ∃ f2, fuel = f2 + 1 := ⟨fuel - 1, by omega⟩
            refine ⟨fun hr => ?_, fun j hj => ?_⟩
            · exfalso
              have hr' : i + 1 ∈ Region.ready md ops l2 := mem_ready.2 ⟨hg, o2, hk2, fun e he hb => by
                have := T.a (i + 1) o2 hk2 e he hb
                rw [← dflt (by rw [hs2]; omega)]
                exact hl2 e.on (by omega) (by omega)⟩
              rw [hr] at hr'
              simp at hr'
            · obtain ⟨g0, oj, hoj, _⟩ := mem_ready.1 hj
              have hjl := (Array.getElem?_eq_some_iff.1 hoj).1
              by_cases e : j = i + 1
              · subst e
                obtain rfl := Option.some.inj (hk2.symm.trans hoj)
                have hwant2 : Region.wanted o2 (yielded ops b.tmps) = true := by simp [Region.wanted, T.g (i + 1) o2 hk2]
                refine wpOp_step hk2 fun K2 hK2 => ?_
                rw [if_pos hwant2]
                refine Oper.wp_mono (fun a2 w2 h2' => hK2 _ _ (wpAny_done ?_ h2' f2)) (last b V hb hRb hfx)
                cases hr : Region.ready md ops (l2.setIfInBounds (i + 1) true) with
                | nil => rfl
                | cons m t =>
                  exfalso
                  have hm : m ∈ Region.ready md ops (l2.setIfInBounds (i + 1) true) := by rw [hr]; simp
                  obtain ⟨q0, om, hom, _⟩ := mem_ready.1 hm
                  have hml := (Array.getElem?_eq_some_iff.1 hom).1
                  by_cases e : i + 1 = m
                  · subst e
                    rw [getD_same (by rw [hs2]; exact hks')] at q0
                    simp at q0
                  · rw [getD_off e, hl2 m (by omega) hml] at q0
                    simp at q0
              · exfalso
                rw [hl2 j e hjl] at g0
                simp at g0
          cases hxl : listed.getD x false with
          | true =>
            refine fin2 _ fuel a W hs2 (fun j hj hjs => ?_) g1 (by omega) H.b hRW (fx _ w _ (H.f x ox dx hox hxl hdx))
            by_cases c : j = x
            · rw [c, gx, hxl]
            · exact hall2 j hj c hjs
          | false =>
            have hxs : x < ops.size := by have := T.kx; omega
            have l1 : 0 < left (listed.setIfInBounds i true) ops.size := by
              rcases Nat.eq_zero_or_pos (left (listed.setIfInBounds i true) ops.size) with z | z
              · have := left_zero (n := ops.size) z (i + 1) hks'
                rw [g1] at this
                simp at this
              · exact z
            obtain ⟨f2, rfl⟩ : ∃ f2, fuel = f2 + 1 := ⟨fuel - 1, by omega⟩
            generalize hl2 : listed.setIfInBounds i true = l2 at *
            have rx : x ∈ Region.ready md ops l2 := mem_ready.2 ⟨by rw [gx, hxl], ox, hox, fun e he hb => by
              have h1 := T.a x ox hox e he hb
              rw [← dflt (by rw [hs2]; omega)]
              exact hall2 e.on (by have := T.kx; omega) (by omega) (by omega)⟩
            refine ⟨fun hr => ?_, fun j hj => ?_⟩
            · exfalso
              rw [hr] at rx
              simp at rx
            · obtain ⟨g0, oj, hoj, hready⟩ := mem_ready.1 hj
              have hjl := (Array.getElem?_eq_some_iff.1 hoj).1
              by_cases e : j = x
              · subst e
                obtain rfl := Option.some.inj (hox.symm.trans hoj)
                have hwant2 : Region.wanted ox (yielded ops a.tmps) = true := by simp [Region.wanted, T.g j ox hox]
                refine wpOp_step hox fun K2 hK2 => ?_
                rw [if_pos hwant2]
                have hll2 := left_set (by rw [hs2]; exact hxs) g0 ops.size hxs
                refine steps j T.kx ox hox a W H.b hW (fun p d hpd => ?_) K2 fun v w' hw hf => ?_
                · unfold waits at hpd
                  rw [hox] at hpd
                  cases hop : ops[p]? with
                  | none => rw [hop] at hpd; simp at hpd
                  | some op =>
                    have hpd0 := hpd
                    rw [hop] at hpd
                    simp only [Bool.and_eq_true, beq_iff_eq] at hpd
                    obtain ⟨e, he, hb⟩ := Array.any_eq_true'.1 hpd.1
                    simp only [Bool.and_eq_true, beq_iff_eq] at hb
                    have h1 := T.a j ox hox e he hb.1
                    have hw' : waits md ops j p d = true := by
                      unfold waits
                      rw [hox, hop]
                      simp only [Bool.and_eq_true, beq_iff_eq]
                      exact hpd
                    exact sx p d _ w W hw' (H.f p op d hop (hahead (i - p) p (Nat.le_refl _) (by have := T.kx; omega) (by omega)) hpd.2)
                · refine hK2 _ _ (fin2 (l2.setIfInBounds j true) f2 _ _ (by simp [hs2]) (fun m hm hms => ?_) ?_ (by omega) ?_ ?_ ?_)
                  · by_cases c : j = m
                    · subst c
                      exact getD_same (by rw [hs2]; exact hxs) _
                    · rw [getD_off c]
                      exact hall2 m hm (Ne.symm c) hms
                  · rw [getD_off (by have := T.kx; omega)]
                    exact g1
                  · exact H.b.put hox v
                  · rw [hdx]
                    exact hR a W w' v hw hRW
                  · rw [hdx, put_at (by rw [H.b.2.1]; exact Nat.lt_of_lt_of_le (T.d j ox dx hox hdx) hn)]
                    exact hf
              · exfalso
                by_cases e2 : j = i + 1
                · subst e2
                  obtain rfl := Option.some.inj (hk2.symm.trans hoj)
                  obtain ⟨_, ⟨e3, he3, hb3, hq3⟩⟩ := T.l o2 hk2
                  have := hready e3 he3 hb3
                  rw [hq3, ← dflt (by rw [hs2]; exact hxs), gx, hxl] at this
                  simp at this
                · rw [hall2 j e2 e hjl] at g0
                  simp at g0
/-- The same for the region. -/
theorem region_late {id : Nat} {w : World} (k x : Nat) (F : Nat → Fact) (hm : P.follows .mixedOrders = true) (hT : textLate .any ops a0.tmps.size k x = true) (steps : ∀ i, i < k → StepOk P .any ops Q F a0 w i) (o1 o2 : Oper) (hk1 : ops[k]? = some o1) (hk2 : ops[k + 1]? = some o2) (dx : Nat) (wx : writes ops x dx = true) (R : Act → World → Prop)
    (hR : ∀ a W W' v, Below W.heap.size W W' → R a W → R (a.put (some dx) v) W')
    (sx : ∀ j d v w w', waits .any ops x j d = true → (F j).p v w → (F j).p v w') (fx : ∀ v w w', (F x).p v w → (F x).p v w')
    (fin : ∀ a W, Based ops a0 a → Below w.heap.size w W → (∀ i d, decide (i < k ∧ i ≠ x) = true → writes ops i d = true → (F i).p (a.tmps.getD d undef) W) →
      ∀ K : Act → World → Prop, (∀ W', Below w.heap.size w W' → R a W' → K a W') → o1.wp P a W K Q)
    (last : ∀ a W, Based ops a0 a → R a W → (F x).p (a.tmps.getD dx undef) W → o2.wp P a W (fun a' w' => Q .normal a' w') Q) : (Code.region id ops true).wp P Q a0 w := by
  have T := textL_of hT
  have z : ∀ j, (Array.replicate ops.size false).getD j false = false := fun j => by
    rw [Array.getD_eq_getD_getElem?, Array.getElem?_replicate]
    split <;> rfl
  refine wp_region_any hm ?_
  refine any_late (w0 := w) T (Nat.le_refl _) steps o1 o2 hk1 hk2 dx wx R hR sx fx (fun a W hb hw hf => fin a W hb hw (fun i d hi hd => ?_)) last ops.size _ a0 _ ?_ ⟨⟨rfl, rfl, fun _ _ => rfl⟩, (Below.refl _ _).drew, ?_, ?_, by simp⟩ (z k) (z (k + 1))
  · obtain ⟨o, ho, hd'⟩ := writes_is hd
    have c := of_decide_eq_true hi
    exact hf i o d c.1 c.2 ho hd'
  · have : ∀ m, left (Array.replicate ops.size false) m ≤ m := by
      intro m
      induction m with
      | zero => exact Nat.le_refl _
      | succ m ih => unfold left; split <;> omega
    exact this _
  · intro i o d ho hl _
    rw [z] at hl
    simp at hl
  · intro i o ho hl
    rw [z] at hl
    simp at hl
theorem puts_late {n k x : Nat} (hT : textLate md ops n k x = true) (hn : n = a0.tmps.size) {a : Act} (hb : Based ops a0 a) (vs : Nat → Value) (hv : ∀ d, a.tmps.getD d undef = vs d) : a = puts vs a0 ops.toList := by
  have T := textL_of hT
  have hin : ∀ o ∈ ops.toList, ∀ e, o.dst = some e → e < a0.tmps.size := fun o ho e he => by
    obtain ⟨i, hi⟩ := List.getElem?_of_mem ho
    have := T.d i o e (by simpa using hi) he
    rw [hn] at this
    exact this
  obtain ⟨s1, s2⟩ := puts_size vs ops.toList a0
  obtain ⟨ta, da⟩ := a
  obtain ⟨h1, h2, h3⟩ := hb
  have e1 : ta = (puts vs a0 ops.toList).tmps := by
    apply Array.ext
    · rw [s1]; exact h2
    · intro i hi hi'
      have g := puts_get vs i ops.toList a0 hin
      have l : ta[i] = ta.getD i undef := by simp [Array.getD_eq_getD_getElem?, hi]
      have r : (puts vs a0 ops.toList).tmps[i] = (puts vs a0 ops.toList).tmps.getD i undef := by simp only [Array.getD_eq_getD_getElem?, Array.getElem?_eq_getElem hi', Option.getD_some]
      rw [l, r, g]
      by_cases c : ops.toList.any (fun o => o.dst == some i) = true
      · rw [if_pos c]; exact hv i
      · rw [if_neg c]
        refine h3 i ?_
        unfold apart
        rw [Array.all_eq_true_iff_forall_mem]
        intro o ho
        have hne : ¬ (o.dst == some i) = true := fun x => c (List.any_eq_true.2 ⟨o, by simpa using ho, x⟩)
        simpa using hne
  have e2 : da = (puts vs a0 ops.toList).defers := h1.trans s2.symm
  subst e1
  subst e2
  rfl
end
end Go.Proofs.YtmhfjkhanlciiaaDoor

/-
  The program's root of an element.
-/
namespace Go.Proofs.YtmhfjkhanlciiaaDoor
set_option maxRecDepth 100000
open Go.RowKit

theorem Blk.l5 {w : World} {g : Nat} {u : Nat → Int} (h : Blk w g .u64 [u 0, u 1, u 2, u 3, u 4]) : w.cell? ⟨g, 0, none⟩ = some (.int .u64 (u 0)) ∧ w.cell? ⟨g, 1, none⟩ = some (.int .u64 (u 1)) ∧ w.cell? ⟨g, 2, none⟩ = some (.int .u64 (u 2)) ∧ w.cell? ⟨g, 3, none⟩ = some (.int .u64 (u 3)) ∧ w.cell? ⟨g, 4, none⟩ = some (.int .u64 (u 4)) := h.f5.1
abbrev put5 (W : World) (p : Nat) (u : Nat → Int) : World := ((((W.setCell ⟨p, 0, none⟩ (.int .u64 (u 0))).setCell ⟨p, 1, none⟩ (.int .u64 (u 1))).setCell ⟨p, 2, none⟩ (.int .u64 (u 2))).setCell ⟨p, 3, none⟩ (.int .u64 (u 3))).setCell ⟨p, 4, none⟩ (.int .u64 (u 4))
theorem put5_same {W : World} {p : Nat} {a b c d e : Int} (u : Nat → Int) (h : Blk W p .u64 [a, b, c, d, e]) : Blk (put5 W p u) p .u64 [u 0, u 1, u 2, u 3, u 4] :=
  ((((h.store 0 _).store 1 _).store 2 _).store 3 _).store 4 _
theorem bset {W : World} {g p i : Nat} {k : IntKind} {ys : List Int} {v : Value} (h : Blk W g k ys) (hne : g ≠ p) : Blk (W.setCell ⟨p, i, none⟩ v) g k ys := h.of_block (heap_setCell_other W ⟨p, i, none⟩ g v hne)
theorem put5_keep {W : World} {p g : Nat} {k : IntKind} {ys : List Int} {u : Nat → Int} (h : Blk W g k ys) (hne : g ≠ p) : Blk (put5 W p u) g k ys := bset (bset (bset (bset (bset h hne) hne) hne) hne) hne

/-- What the root answers. -/
def RootOut (A : Int) (r : Ending) : Prop := (r1I A * r1I A % PP = A ∧ ∃ t, r = .returned (.tuple #[ag5 t, .bool true]) ∧ Lm t ∧ sv t 5 = fin2 (r1I A)) ∨ (¬ r1I A * r1I A % PP = A ∧ r = .returned (.tuple #[ag5 z5e, .bool false]))

set_option maxHeartbeats 8000000 in
theorem root_any (w : World) (e : Nat → Int) (he : Elm e) (hR : HasR w) :
    Calls Tryd.prog 117 #[ag5 e] w fun r w' => RootOut (sv e 5) r ∧ Below w.heap.size w w' := by
  have heL := he.1
  have B0 := blk_box w .u64 59 (e 0) (e 1) (e 2) (e 3) (e 4)
  have n0 : Below w.heap.size w (w.alloc (.cells #[.int .u64 (e 0), .int .u64 (e 1), .int .u64 (e 2), .int .u64 (e 3), .int .u64 (e 4)] 59)) := (Below.refl _ _).alloc (Nat.le_refl _) _
  have s0 : (w.alloc (.cells #[.int .u64 (e 0), .int .u64 (e 1), .int .u64 (e 2), .int .u64 (e 3), .int .u64 (e 4)] 59)).heap.size = w.heap.size + 1 := by simp
  have CH := fun W (h : Below w.heap.size w W) => chain_any W e he 12 2 2 (by omega) (by omega) (by omega) (hR.up h).1
  rw [eRt_ok] at CH
  simp only [ag5] at CH ⊢
  go_enter Tryd.func117, Tryd.ntmps117
  go_upto_region 1 with fail
  generalize w.alloc (.cells #[.int .u64 (e 0), .int .u64 (e 1), .int .u64 (e 2), .int .u64 (e 3), .int .u64 (e 4)] 59) = wa at *
  have B1 := blk_box wa .u64 59 0 0 0 0 0
  have n1 : Below wa.heap.size wa (wa.alloc (.cells #[.int .u64 0, .int .u64 0, .int .u64 0, .int .u64 0, .int .u64 0] 59)) := (Below.refl _ _).alloc (Nat.le_refl _) _
  rw [s0] at B1
  generalize wa.alloc (.cells #[.int .u64 0, .int .u64 0, .int .u64 0, .int .u64 0, .int .u64 0] 59) = wb at *
  have N1 := nxt n0 n1
  obtain ⟨⟨q0, q1, q2, q3, q4⟩, _⟩ := (B0.up n1).f5
  obtain ⟨i0, i1, i2⟩ := (hR.up N1).2.1
  have E0 := B0.up n1
  clear n0 n1 s0 B0
  go_wp2_with fail
  refine (CH wb N1).mono ?_
  rintro r w1 ⟨t, rfl, L, V, n2⟩
  have N2 := nxt N1 n2
  have E02 := E0.up n2
  have E12 := B1.up n2
  have T := blk_box w1 .u64 59 (t 0) (t 1) (t 2) (t 3) (t 4)
  have n3 : Below w1.heap.size w1 (w1.alloc (.cells #[.int .u64 (t 0), .int .u64 (t 1), .int .u64 (t 2), .int .u64 (t 3), .int .u64 (t 4)] 59)) := (Below.refl _ _).alloc (Nat.le_refl _) _
  have VR : Hid (sv t 5 = rtR (sv e 5)) := V
  have zz := E12.lt
  clear CH V q0 q1 q2 q3 q4 i0 i1 i2 E0 B1 N1 n2
  go_upto_region 2 with fail
  have E03 := E02.up n3
  have E13 := E12.up n3
  have N3 := nxt N2 n3
  generalize w1.alloc (.cells #[.int .u64 (t 0), .int .u64 (t 1), .int .u64 (t 2), .int .u64 (t 3), .int .u64 (t 4)] 59) = wr at *
  generalize w1.heap.size = pr at *
  have CE : Hid (∀ W, Below wr.heap.size wr W → (W.cell? ⟨pr, 0, none⟩ = some (.int .u64 (t 0)) ∧ W.cell? ⟨pr, 1, none⟩ = some (.int .u64 (t 1)) ∧ W.cell? ⟨pr, 2, none⟩ = some (.int .u64 (t 2)) ∧ W.cell? ⟨pr, 3, none⟩ = some (.int .u64 (t 3)) ∧ W.cell? ⟨pr, 4, none⟩ = some (.int .u64 (t 4))) ∧ (W.cell? ⟨w.heap.size, 0, none⟩ = some (.int .u64 (e 0)) ∧ W.cell? ⟨w.heap.size, 1, none⟩ = some (.int .u64 (e 1)) ∧ W.cell? ⟨w.heap.size, 2, none⟩ = some (.int .u64 (e 2)) ∧ W.cell? ⟨w.heap.size, 3, none⟩ = some (.int .u64 (e 3)) ∧ W.cell? ⟨w.heap.size, 4, none⟩ = some (.int .u64 (e 4)))) := fun W n => ⟨(T.up n).f5.1, (E03.up n).f5.1⟩
  have SQ : Hid (∀ W, Below wr.heap.size wr W → Calls Tryd.prog 116 #[.agg #[.int .u64 (t 0), .int .u64 (t 1), .int .u64 (t 2), .int .u64 (t 3), .int .u64 (t 4)]] W fun r w' => ∃ u, r = .returned (.agg #[.int .u64 (u 0), .int .u64 (u 1), .int .u64 (u 2), .int .u64 (u 3), .int .u64 (u 4)]) ∧ Hid (Lm u ∧ sv u 5 = sv t 5 * sv t 5 % PP) ∧ Below wr.heap.size wr w') := by
    intro W n
    refine (square_any W t L).mono ?_
    rintro r w' ⟨u, rfl, Lu, Vu, n'⟩
    exact ⟨u, rfl, ⟨Lu, Vu⟩, nxt n n'⟩
  have NG : Hid (∀ W, Below wr.heap.size wr W → Calls Tryd.prog 108 #[.agg #[.int .u64 (e 0), .int .u64 (e 1), .int .u64 (e 2), .int .u64 (e 3), .int .u64 (e 4)]] W fun r w' => ∃ u, r = .returned (.agg #[.int .u64 (u 0), .int .u64 (u 1), .int .u64 (u 2), .int .u64 (u 3), .int .u64 (u 4)]) ∧ Hid (Lm u ∧ sv u 5 = (0 - sv e 5) % PP) ∧ Below wr.heap.size wr w') := by
    intro W n
    refine (negate_any W e heL ((hR.up (nxt N3 n)).2.2.2)).mono ?_
    rintro r w' ⟨u, rfl, Lu, Vu, n'⟩
    exact ⟨u, rfl, ⟨Lu, Vu⟩, nxt n n'⟩
  have nd : Below wr.heap.size wr wr.drew := (Below.refl _ _).drew
  have EQ := eqElem
  go_cut [12] (fun v wc => v = .bool (decide (rtR (sv e 5) * rtR (sv e 5) % PP = (0 - sv e 5) % PP)) ∧ Below wr.heap.size wr wc)
  case first =>
    go_region_held3 (fun W => (W.cell? ⟨pr, 0, none⟩ = some (.int .u64 (t 0)) ∧ W.cell? ⟨pr, 1, none⟩ = some (.int .u64 (t 1)) ∧ W.cell? ⟨pr, 2, none⟩ = some (.int .u64 (t 2)) ∧ W.cell? ⟨pr, 3, none⟩ = some (.int .u64 (t 3)) ∧ W.cell? ⟨pr, 4, none⟩ = some (.int .u64 (t 4))) ∧ (W.cell? ⟨w.heap.size, 0, none⟩ = some (.int .u64 (e 0)) ∧ W.cell? ⟨w.heap.size, 1, none⟩ = some (.int .u64 (e 1)) ∧ W.cell? ⟨w.heap.size, 2, none⟩ = some (.int .u64 (e 2)) ∧ W.cell? ⟨w.heap.size, 3, none⟩ = some (.int .u64 (e 3)) ∧ W.cell? ⟨w.heap.size, 4, none⟩ = some (.int .u64 (e 4))))
      (first | exact (unhide CE) _ nd | exact (unhide CE) _ ns | exact (unhide CE) _ nm)
      (first
        | (go_at_call 116; refine ((unhide SQ) _ (by first | exact nd | exact nm)).mono ?_; rintro r ws ⟨u, rfl, LU, ns⟩)
        | (go_at_call 108; refine ((unhide NG) _ (by first | exact nd | exact ns)).mono ?_; rintro r wm ⟨v, rfl, LV, nm⟩))
    all_goals
      have BB : Hid ((u 0 == v 0 && u 1 == v 1 && u 2 == v 2 && u 3 == v 3 && u 4 == v 4) = decide (rtR (sv e 5) * rtR (sv e 5) % PP = (0 - sv e 5) % PP)) := by
        show _ = _
        rw [eq_Lm LU.out.1 LV.out.1, LU.out.2, LV.out.2, VR.out]
      clear SQ NG CE EQ
      go_wp2_with fail
      go_meet
      first
        | exact ⟨congrArg Value.bool BB.out, nm⟩
        | exact ⟨congrArg Value.bool BB.out, ns⟩
  case rest =>
    obtain ⟨rfl, nc⟩ := hcut
    have T4 := T.up nc
    have E04 := E03.up nc
    have E14 := E13.up nc
    have N4 := nxt N3 nc
    have hR4 := hR.up N4
    have MU := fun W => mulE_any W t iL L iL_lm
    rw [iL_val] at MU
    obtain ⟨j0, j1, j2, j3, j4⟩ : wc.cell? ⟨6, 0, none⟩ = some (.int .u64 (iL 0)) ∧ wc.cell? ⟨6, 1, none⟩ = some (.int .u64 (iL 1)) ∧ wc.cell? ⟨6, 2, none⟩ = some (.int .u64 (iL 2)) ∧ wc.cell? ⟨6, 3, none⟩ = some (.int .u64 (iL 3)) ∧ wc.cell? ⟨6, 4, none⟩ = some (.int .u64 (iL 4)) :=
      ⟨hR4.2.2.1 0 (by omega), hR4.2.2.1 1 (by omega), hR4.2.2.1 2 (by omega), hR4.2.2.1 3 (by omega), hR4.2.2.1 4 (by omega)⟩
    obtain ⟨il, hil⟩ : ∃ f, f = iL := ⟨_, rfl⟩
    rw [← hil] at MU j0 j1 j2 j3 j4
    have ple := T4.lt
    have pe := E04.lt
    clear hil SQ NG CE nd T E02 E12 E03 E13 N2 N3 nc n3
    simp only [ag5] at MU
    have KR : Hid (sv t 5 = rtR (sv e 5)) := VR
    go_upto_if 12 with fail
    go_cut [] (fun wc => ∃ t1, Blk wc pr .u64 [t1 0, t1 1, t1 2, t1 3, t1 4] ∧ Lm t1 ∧ Hid (sv t1 5 = r1I (sv e 5)) ∧ Blk wc w.heap.size .u64 [e 0, e 1, e 2, e 3, e 4] ∧ Blk wc (w.heap.size + 1) .u64 [0, 0, 0, 0, 0] ∧ Below w.heap.size w wc)
    case first =>
      by_cases cc : rtR (sv e 5) * rtR (sv e 5) % PP = (0 - sv e 5) % PP
      · have k1 : Hid (r1I (sv e 5) = sv t 5 * iM % PP) := by show _ = _; rw [KR.out, r1I, if_pos cc]
        rw [decide_eq_true cc]
        clear cc
        obtain ⟨y0, y1, y2, y3, y4⟩ := T4.f5.1
        go_wp2_with fail
        refine (MU wc).mono ?_
        rintro r wm ⟨t1, rfl, L1, V1, nm⟩
        obtain ⟨⟨z0, z1, z2, z3, z4⟩, ⟨f0, f1, f2, f3, f4⟩⟩ := (T4.up nm).f5
        have S0 := put5_same t1 (T4.up nm)
        have S1 := put5_keep (p := pr) (u := t1) (E04.up nm) (by omega)
        have S2 := put5_keep (p := pr) (u := t1) (E14.up nm) (by omega)
        have S3 : Below w.heap.size w (put5 wm pr t1) := below_set5 (nxt N4 nm) (by omega) _ _ _ _ _
        have V1' : Hid (sv t1 5 = r1I (sv e 5)) := by rw [k1.out]; exact V1
        clear MU j0 j1 j2 j3 j4 V1 y0 y1 y2 y3 y4
        go_wp2_with fail
        go_meet
        exact ⟨t1, S0, L1, V1', S1, S2, S3⟩
      · have k1 : Hid (sv t 5 = r1I (sv e 5)) := by show _ = _; rw [KR.out, r1I, if_neg cc]
        rw [decide_eq_false cc]
        clear cc
        go_wp2_with fail
        go_meet
        exact ⟨t, T4, L, k1, E04, E14, N4⟩
    case rest =>
      clear T4 E04 E14 MU j0 j1 j2 j3 j4 N4 hR4 KR VR L
      obtain ⟨t1, T1, L1, V1, E0, E1, N5⟩ := hcut
      have zr := T1.lt
      have CE : Hid (∀ W, Below wc.heap.size wc W → (W.cell? ⟨pr, 0, none⟩ = some (.int .u64 (t1 0)) ∧ W.cell? ⟨pr, 1, none⟩ = some (.int .u64 (t1 1)) ∧ W.cell? ⟨pr, 2, none⟩ = some (.int .u64 (t1 2)) ∧ W.cell? ⟨pr, 3, none⟩ = some (.int .u64 (t1 3)) ∧ W.cell? ⟨pr, 4, none⟩ = some (.int .u64 (t1 4))) ∧ (W.cell? ⟨w.heap.size, 0, none⟩ = some (.int .u64 (e 0)) ∧ W.cell? ⟨w.heap.size, 1, none⟩ = some (.int .u64 (e 1)) ∧ W.cell? ⟨w.heap.size, 2, none⟩ = some (.int .u64 (e 2)) ∧ W.cell? ⟨w.heap.size, 3, none⟩ = some (.int .u64 (e 3)) ∧ W.cell? ⟨w.heap.size, 4, none⟩ = some (.int .u64 (e 4)))) := fun W n => ⟨(T1.up n).f5.1, (E0.up n).f5.1⟩
      have SQ : Hid (∀ W, Below wc.heap.size wc W → Calls Tryd.prog 116 #[.agg #[.int .u64 (t1 0), .int .u64 (t1 1), .int .u64 (t1 2), .int .u64 (t1 3), .int .u64 (t1 4)]] W fun r w' => ∃ u, r = .returned (.agg #[.int .u64 (u 0), .int .u64 (u 1), .int .u64 (u 2), .int .u64 (u 3), .int .u64 (u 4)]) ∧ Hid (Lm u ∧ sv u 5 = sv t1 5 * sv t1 5 % PP) ∧ Below wc.heap.size wc w') := by
        intro W n
        refine (square_any W t1 L1).mono ?_
        rintro r w' ⟨u, rfl, Lu, Vu, n'⟩
        exact ⟨u, rfl, ⟨Lu, Vu⟩, nxt n n'⟩
      have nd : Below wc.heap.size wc wc.drew := (Below.refl _ _).drew
      go_upto_region 4 with fail
      go_cut [19] (fun v wd => v = .bool (!decide (r1I (sv e 5) * r1I (sv e 5) % PP = sv e 5)) ∧ Below wc.heap.size wc wd)
      case first =>
        go_region_held3 (fun W => (W.cell? ⟨pr, 0, none⟩ = some (.int .u64 (t1 0)) ∧ W.cell? ⟨pr, 1, none⟩ = some (.int .u64 (t1 1)) ∧ W.cell? ⟨pr, 2, none⟩ = some (.int .u64 (t1 2)) ∧ W.cell? ⟨pr, 3, none⟩ = some (.int .u64 (t1 3)) ∧ W.cell? ⟨pr, 4, none⟩ = some (.int .u64 (t1 4))) ∧ (W.cell? ⟨w.heap.size, 0, none⟩ = some (.int .u64 (e 0)) ∧ W.cell? ⟨w.heap.size, 1, none⟩ = some (.int .u64 (e 1)) ∧ W.cell? ⟨w.heap.size, 2, none⟩ = some (.int .u64 (e 2)) ∧ W.cell? ⟨w.heap.size, 3, none⟩ = some (.int .u64 (e 3)) ∧ W.cell? ⟨w.heap.size, 4, none⟩ = some (.int .u64 (e 4))))
          (first | exact (unhide CE) _ nd | exact (unhide CE) _ ns)
          (first
            | (go_at_call 116; refine ((unhide SQ) _ nd).mono ?_; rintro r ws ⟨u, rfl, LU, ns⟩))
        all_goals
          have BB : Hid ((u 0 == e 0 && u 1 == e 1 && u 2 == e 2 && u 3 == e 3 && u 4 == e 4) = decide (r1I (sv e 5) * r1I (sv e 5) % PP = sv e 5)) := by
            show _ = _
            rw [eq_Lm LU.out.1 heL, LU.out.2, V1.out]
          clear SQ CE EQ
          go_wp2_with fail
          go_meet
          exact ⟨by rw [← BB.out]; simp only [Bool.not_and], ns⟩
      case rest =>
        obtain ⟨rfl, nc⟩ := hcut
        have T6 := T1.up nc
        have E6 := E1.up nc
        have N6 := nxt N5 nc
        clear SQ CE EQ nd T1 E0 E1 N5 nc
        by_cases gg : r1I (sv e 5) * r1I (sv e 5) % PP = sv e 5
        · have G : Hid (r1I (sv e 5) * r1I (sv e 5) % PP = sv e 5) := gg
          rw [decide_eq_true gg]
          clear gg
          have EV := fun W => isEven_any W t1 L1
          obtain ⟨y0, y1, y2, y3, y4⟩ := T6.f5.1
          by_cases ev : sv t1 5 % 2 = 0
          · have K : Hid (sv t1 5 = fin2 (r1I (sv e 5))) := by show _ = _; rw [← V1.out, fin2, if_pos ev]
            rw [decide_eq_true ev] at EV
            clear ev
            simp only [ag5] at EV
            go_wp2_with fail
            refine (EV _).mono ?_
            rintro r w7 ⟨rfl, n7⟩
            have N7 := nxt N6 n7
            obtain ⟨⟨p0, p1, p2, p3, p4⟩, ⟨g0, g1, g2, g3, g4⟩⟩ := (E6.up n7).f5
            obtain ⟨x0, x1, x2, x3, x4⟩ := (T6.up n7).f5.1
            clear EV y0 y1 y2 y3 y4 T6 E6 N6 n7
            go_wp2
            refine bodyPost_ret (v := .tuple #[ag5 t1, .bool true]) (by simp [ag5, results, Tryd.results117, go_sem, p0, p1, p2, p3, p4]) rfl ⟨Or.inl ⟨G.out, t1, rfl, L1, K.out⟩, ?_⟩
            exact below_set5 N7 (by omega) _ _ _ _ _
          · have K : Hid ((0 - sv t1 5) % PP = fin2 (r1I (sv e 5))) := by show _ = _; rw [← V1.out, fin2, if_neg ev]
            rw [decide_eq_false ev] at EV
            clear ev
            simp only [ag5] at EV
            go_wp2_with fail
            refine (EV _).mono ?_
            rintro r w7 ⟨rfl, n7⟩
            have N7 := nxt N6 n7
            have E7 := E6.up n7
            have T7 := T6.up n7
            obtain ⟨x0, x1, x2, x3, x4⟩ := T7.f5.1
            have NG := fun W (h : Below w.heap.size w W) => negate_any W t1 L1 ((hR.up h).2.2.2)
            simp only [ag5] at NG
            clear EV y0 y1 y2 y3 y4 T6 E6 N6 n7
            go_wp2_with fail
            refine (NG w7 N7).mono ?_
            rintro r w8 ⟨t2, rfl, L2, W2, n8⟩
            have K2 : Hid (sv t2 5 = fin2 (r1I (sv e 5))) := by rw [← K.out]; exact W2
            have N8 := nxt N7 n8
            obtain ⟨⟨z0, z1, z2, z3, z4⟩, ⟨f0, f1, f2, f3, f4⟩⟩ := (T7.up n8).f5
            have S0 := put5_same t2 (T7.up n8)
            have S2 := put5_keep (p := pr) (u := t2) (E7.up n8) (by omega)
            have S3 : Below w.heap.size w (put5 w8 pr t2) := below_set5 N8 (by omega) _ _ _ _ _
            obtain ⟨⟨p0, p1, p2, p3, p4⟩, ⟨g0, g1, g2, g3, g4⟩⟩ := S2.f5
            obtain ⟨c0, c1, c2, c3, c4⟩ := S0.f5.1
            clear NG x0 x1 x2 x3 x4 T7 E7 N7 n8 W2 N8 S0 S2
            go_wp2
            refine bodyPost_ret (v := .tuple #[ag5 t2, .bool true]) (by simp [ag5, results, Tryd.results117, go_sem, p0, p1, p2, p3, p4]) rfl ⟨Or.inl ⟨G.out, t2, rfl, L2, K2.out⟩, ?_⟩
            exact below_set5 S3 (by omega) _ _ _ _ _
        · have G : Hid (¬ r1I (sv e 5) * r1I (sv e 5) % PP = sv e 5) := gg
          rw [decide_eq_false gg]
          clear gg
          obtain ⟨⟨p0, p1, p2, p3, p4⟩, ⟨g0, g1, g2, g3, g4⟩⟩ := E6.f5
          go_wp2
          refine bodyPost_ret (v := .tuple #[ag5 z5e, .bool false]) (by simp [ag5, z5e, results, Tryd.results117, go_sem, p0, p1, p2, p3, p4]) rfl ⟨Or.inr ⟨G.out, rfl⟩, ?_⟩
          exact below_set5 N6 (by omega) _ _ _ _ _
end Go.Proofs.YtmhfjkhanlciiaaDoor
