import Derived.Test.YtmhfjkhanlciiaaDoorGP33
import Derived.Test.YtmhfjkhanlciiaaDoorGP25
import Derived.Test.YtmhfjkhanlciiaaDoorGP26
import Derived.Test.YtmhfjkhanlciiaaDoorGP31
import Derived.Test.YtmhfjkhanlciiaaDoorGP14
import Derived.Test.YtmhfjkhanlciiaaDoorGP12
import Derived.Test.YtmhfjkhanlciiaaDoorGP13
import Derived.Test.YtmhfjkhanlciiaaDoorGP6
import Derived.Test.YtmhfjkhanlciiaaDoorGP2
import Derived.Test.YtmhfjkhanlciiaaDoorGP17
import Derived.BigFrame

/-
  The program's PointZero, PointBase, PointToLadder.
-/
namespace Go.Proofs.YtmhfjkhanlciiaaDoor
set_option maxRecDepth 100000
open Go Go.RowKit

set_option maxHeartbeats 2000000 in
theorem implZero_any (w : World) (ZP : RowN w 1 0 [0, 1]) :
    Calls Tryd.prog 44 #[] w fun r w' => NewP2 w.heap.size w' r (fill (byt ((0) % PP)) 32) (fill (byt ((1) % PP)) 32) ∧ Below w.heap.size w w' := by
  have TZ := Two.new w (.slice none 0 0) (.slice none 0 0) 27
  have N : Below w.heap.size w (w.alloc pObj) := (Below.refl _ _).alloc (Nat.le_refl _) _
  go_enter Tryd.func44, Tryd.ntmps44
  go_upto_region 1 with fail
  obtain ⟨wr, hwr⟩ : ∃ W, W = w.alloc pObj := ⟨_, rfl⟩
  change Two (w.alloc pObj) _ _ _ at TZ
  rw [← hwr] at TZ N
  change Code.wp _ _ _ _ (w.alloc pObj)
  rw [← hwr]
  clear hwr
  replace ZP := ZP.up N
  refine region_putD 2 1 0 2 _ (fun i => [EN [0, 1], PD wr (fill (byt ((0) % PP)) 32) (fill (byt ((1) % PP)) 32)].getD i Fact.no) (fill (byt ((0) % PP)) 32) (fill (byt ((1) % PP)) 32) _ (by kernel_rfl) rfl rfl rfl (by kernel_rfl) rfl TZ.there (by kernel_rfl) rfl ?_ ?_
  · intro i hi
    obtain rfl | rfl : i = 0 ∨ i = 1 := by omega
    · exact step_glA rfl 1 rfl _ _ ZP rfl
    · exact step_pt rfl 1 0 _ _ rfl (by kernel_rfl) rfl rfl
  intro vsL Wa Wb b b' k k' h h' na rg o1 o2 l1 l2 hne nb
  have z := N.size
  have NS := nb w w.heap.size (nxt N na) (by omega)
  simp only [puts, Act.put, List.setIfInBounds_toArray, List.set_cons_succ, List.set_cons_zero]
  clear na nb N TZ ZP
  obtain ⟨fs, hfs⟩ := uP
  go_wp2
  exact bodyPost_ret (v := .agg #[.slice b _ k, .slice b' _ k']) (results_cell_mid Tryd.results44 _ _ w.heap.size [.slice b _ k, .slice b' _ k'] _ rfl rg hfs rfl iP) rfl ⟨⟨b, k, h, b', k', h', rfl, o1, o2, by omega, by omega, hne⟩, NS⟩
set_option maxHeartbeats 2000000 in
theorem implBase_any (w : World) (X Y : Int) (ZP : RowN w 0 0 [X, Y]) :
    Calls Tryd.prog 19 #[] w fun r w' => NewP2 w.heap.size w' r (fill (byt ((X) % PP)) 32) (fill (byt ((Y) % PP)) 32) ∧ Below w.heap.size w w' := by
  have TZ := Two.new w (.slice none 0 0) (.slice none 0 0) 27
  have N : Below w.heap.size w (w.alloc pObj) := (Below.refl _ _).alloc (Nat.le_refl _) _
  go_enter Tryd.func19, Tryd.ntmps19
  go_upto_region 1 with fail
  obtain ⟨wr, hwr⟩ : ∃ W, W = w.alloc pObj := ⟨_, rfl⟩
  change Two (w.alloc pObj) _ _ _ at TZ
  rw [← hwr] at TZ N
  change Code.wp _ _ _ _ (w.alloc pObj)
  rw [← hwr]
  clear hwr
  replace ZP := ZP.up N
  refine region_putD 2 1 0 2 _ (fun i => [EN [X, Y], PD wr (fill (byt ((X) % PP)) 32) (fill (byt ((Y) % PP)) 32)].getD i Fact.no) (fill (byt ((X) % PP)) 32) (fill (byt ((Y) % PP)) 32) _ (by kernel_rfl) rfl rfl rfl (by kernel_rfl) rfl TZ.there (by kernel_rfl) rfl ?_ ?_
  · intro i hi
    obtain rfl | rfl : i = 0 ∨ i = 1 := by omega
    · exact step_glA rfl 0 rfl _ _ ZP rfl
    · exact step_pt rfl 1 0 _ _ rfl (by kernel_rfl) rfl rfl
  intro vsL Wa Wb b b' k k' h h' na rg o1 o2 l1 l2 hne nb
  have z := N.size
  have NS := nb w w.heap.size (nxt N na) (by omega)
  simp only [puts, Act.put, List.setIfInBounds_toArray, List.set_cons_succ, List.set_cons_zero]
  clear na nb N TZ ZP
  obtain ⟨fs, hfs⟩ := uP
  go_wp2
  exact bodyPost_ret (v := .agg #[.slice b _ k, .slice b' _ k']) (results_cell_mid Tryd.results19 _ _ w.heap.size [.slice b _ k, .slice b' _ k'] _ rfl rg hfs rfl iP) rfl ⟨⟨b, k, h, b', k', h', rfl, o1, o2, by omega, by omega, hne⟩, NS⟩
/-- The ladder's coordinate of a point, as bytes. -/
def tlA (D : Int) (xs ys : List Int) : List Int := if rpB D xs ys = true then fill (byt ((1 + rpY xs ys) * (1 - rpY xs ys) ^ eInv % PP)) 32 else []
set_option maxHeartbeats 2000000 in
theorem implToLadder_any (w : World) (g g' : Nat) (a a' : Option Addr) (c c' : Nat) (xs ys : List Int) (hx : Rd w g a .u8 xs) (hy : Rd w g' a' .u8 ys) (bx : Byt xs) (by' : Byt ys) (D : Int) (TT : HasTw w 3) (CC : Em5 w 2 0 D) (SS : HasSt w 7) (II : Has3 w 4 12 5 4) :
    Calls Tryd.prog 28 #[.agg #[.slice a xs.length c, .slice a' ys.length c']] w fun r w' => NewRow w.heap.size w' r .u8 (tlA D xs ys) ∧ Below w.heap.size w w' := by
  have T := two_cells w (.slice a xs.length c) (.slice a' ys.length c') 27
  have m1 : Below w.heap.size w (w.alloc (.cells #[.slice a xs.length c, .slice a' ys.length c'] 27)) := (Below.refl _ _).alloc (Nat.le_refl _) _
  have s1 : (w.alloc (.cells #[.slice a xs.length c, .slice a' ys.length c'] 27)).heap.size = w.heap.size + 1 := by simp
  have RX : RdOk w a xs := ⟨g, hx, bx⟩
  have RY : RdOk w a' ys := ⟨g', hy, by'⟩
  obtain ⟨CX, CY⟩ := T
  clear hx hy bx by'
  go_enter Tryd.func28, Tryd.ntmps28
  go_upto_region 1 with fail
  generalize w.alloc (.cells #[.slice a xs.length c, .slice a' ys.length c'] 27) = wa at *
  have N := m1
  clear m1 s1
  replace RX := RX.up N
  replace RY := RY.up N
  replace TT := TT.up N
  replace CC := CC.up N
  replace SS := SS.up N
  replace II := II.up N
  refine region_newN_asg 61 6 5 3 3 8 4 9 4 _ _ (fun i => [Fact.eq (.agg #[.slice a xs.length c, .slice a' ys.length c']), TB [rpX xs ys, rpY xs ys] (rpB D xs ys), TB [rpX xs ys, rpY xs ys] (rpB D xs ys), EN [rpX xs ys, rpY xs ys], Fact.eq (.bool (rpB D xs ys)), NB wa 10].getD i Fact.no) [rpX xs ys, rpY xs ys] (.bool (rpB D xs ys)) (by kernel_rfl) rfl rfl rfl rfl rfl rfl iA (Nat.zero_lt_succ _) rfl rfl rfl (by kernel_rfl) (by kernel_rfl) (by kernel_rfl) rfl rfl rfl (by decide) (by kernel_rfl) ?_ ?_
  · intro i hi
    obtain rfl | rfl | rfl | rfl | rfl | rfl : i = 0 ∨ i = 1 ∨ i = 2 ∨ i = 3 ∨ i = 4 ∨ i = 5 := by omega
    · exact step_lP rfl 1 rfl (by kernel_rfl) _ rfl _ _ CX CY rfl
    · exact step_rp TT CC rfl 6 0 rfl (by kernel_rfl) RX RY rfl rfl
    · exact step_move rfl 7 1 (by exact Or.inl rfl) (by kernel_rfl) rfl
    · exact step_tx0 rfl 5 2 _ _ rfl (by kernel_rfl) rfl rfl
    · exact step_tx1 rfl 5 2 _ _ rfl (by kernel_rfl) rfl rfl
    · exact step_newA rfl rfl rfl
  intro vs1 q3 W1 v3 b4 l3 n E3 T3
  replace RX := RX.up n
  replace RY := RY.up n
  replace TT := TT.up n
  replace CC := CC.up n
  replace SS := SS.up n
  replace II := II.up n
  replace CX := (n.cell (block_lt_of_cell CX)).trans CX
  replace CY := (n.cell (block_lt_of_cell CY)).trans CY
  replace N := nxt N n
  clear n T3 l3
  obtain ⟨ok1, hok1⟩ : ∃ b, b = rpB D xs ys := ⟨_, rfl⟩
  rw [← hok1] at b4
  have HK1 := hide hok1
  clear hok1
  simp only [puts, v3, b4, Act.put, List.setIfInBounds_toArray, List.set_cons_succ, List.set_cons_zero]
  clear v3 b4
  cases ok1 with
  | false =>
    have e1 : tlA D xs ys = [] := by unfold tlA; rw [← HK1.out]; rfl
    clear RX RY TT CC SS II E3 CX CY
    go_wp2
    go_ret
    exact ⟨by rw [e1]; exact ⟨none, 0, w.heap.size, rfl, Own.nil _ _ _ _, fun _ => rfl, Nat.le_refl _, Nat.le_refl _⟩, N⟩
  | true =>
    have e1 : tlA D xs ys = (fill (byt (((1 + (rpY xs ys)) * (1 - (rpY xs ys)) ^ eInv) % PP)) 32) := by unfold tlA; rw [if_pos HK1.out.symm]
    go_upto_region 4 with fail
    refine region_end 4 (fun i => [EN [rpX xs ys, rpY xs ys], EM ((1 + (rpY xs ys)) * (1 - (rpY xs ys)) ^ eInv), RN W1 (fun u9 => u9 = fill (byt (((1 + (rpY xs ys)) * (1 - (rpY xs ys)) ^ eInv) % PP)) 32), RN W1 (fun u9 => u9 = fill (byt (((1 + (rpY xs ys)) * (1 - (rpY xs ys)) ^ eInv) % PP)) 32)].getD i Fact.no) (by kernel_rfl) (by kernel_rfl) rfl ?_ ?_
    · intro i hi
      obtain rfl | rfl | rfl | rfl : i = 0 ∨ i = 1 ∨ i = 2 ∨ i = 3 := by omega
      · exact step_lA rfl 3 rfl (by kernel_rfl) _ rfl _ _  E3 rfl
      · exact step_coord TT SS II rfl 12 0 _ _ rfl (by kernel_rfl) rfl rfl
      · exact step_eb rfl 13 1 _ rfl (by kernel_rfl) rfl rfl
      · exact step_move rfl 14 2 (by exact Or.inr rfl) (by kernel_rfl) rfl
    intro A W hb hw hF
    have e2 := hF 3 2 (by kernel_rfl)
    obtain ⟨vs, hvs⟩ : ∃ vs : Nat → Value, ∀ d, A.tmps.getD d undef = vs d := ⟨_, fun _ => rfl⟩
    rw [hvs] at e2
    rw [puts_of (md := .any) (k := 4) (by kernel_rfl) rfl hb vs hvs]
    have N9 := nxt N hw
    have z := N.size
    clear hb hF hvs hw RX RY TT CC SS II E3 CX CY
    obtain ⟨zs, b, d, h, e3, o3, l3, hzs, k1, k2⟩ := e2
    replace hzs : zs = (fill (byt (((1 + (rpY xs ys)) * (1 - (rpY xs ys)) ^ eInv) % PP)) 32) := hzs
    subst hzs
    simp only [puts, e3, Act.put, List.setIfInBounds_toArray, List.set_cons_succ, List.set_cons_zero]
    go_wp2
    go_ret
    exact ⟨by rw [e1]; exact ⟨b, d, h, rfl, o3, k1, k2, by omega⟩, N9⟩
end Go.Proofs.YtmhfjkhanlciiaaDoor

/-
  The model's PointAdd.
-/
namespace Go.Proofs.YtmhfjkhanlciiaaDoor
set_option maxRecDepth 100000
open Go Go.RowKit

theorem of_up5 {W W' : World} {a : Option Addr} {px : List Int} (h : OfOk W a px) (n : Below W.heap.size W W') : OfOk W' a px := by
  obtain ⟨g, r, b, l⟩ := h
  exact ⟨g, r.up n, b, l⟩
theorem valid_len {px py : List Int} (h : validP px py = true) : px.length = 32 ∧ py.length = 32 := by
  unfold validP at h
  simp only [Bool.and_eq_true] at h
  exact ⟨can_len h.1.1, can_len h.1.2⟩
/-- The coordinates of the sum, as bytes; nothing, if one of the points is none. -/
def paX (px py qx qy : List Int) : List Int := if validP px py = true ∧ validP qx qy = true then fill (byt (addX (num px, num py) (num qx, num qy) % PP)) 32 else []
def paY (px py qx qy : List Int) : List Int := if validP px py = true ∧ validP qx qy = true then fill (byt (addY (num px, num py) (num qx, num qy) % PP)) 32 else []
theorem newPt_nil {B : Nat} {w : World} : NewPt B w (.returned (.agg #[.slice none 0 0, .slice none 0 0])) [] [] := ⟨none, none, 0, 0, B, B, rfl, Own.nil _ _ _ _, Own.nil _ _ _ _, Nat.le_refl _, Nat.le_refl _⟩

set_option maxHeartbeats 2000000 in
theorem specPointAdd_any (w : World) (g1 g2 g3 g4 : Nat) (a1 a2 a3 a4 : Option Addr) (c1 c2 c3 c4 : Nat) (px py qx qy : List Int) (hx : Rd w g1 a1 .u8 px) (hy : Rd w g2 a2 .u8 py) (hu : Rd w g3 a3 .u8 qx) (hv : Rd w g4 a4 .u8 qy) (bx : Byt px) (by' : Byt py) (bu : Byt qx) (bv : Byt qy) :
    Calls Tryd.prog 29 #[.agg #[.slice a1 px.length c1, .slice a2 py.length c2], .agg #[.slice a3 qx.length c3, .slice a4 qy.length c4]] w fun r w' => NewPt w.heap.size w' r (paX px py qx qy) (paY px py qx qy) ∧ Below w.heap.size w w' := by
  have T := two_cells w (.slice a1 px.length c1) (.slice a2 py.length c2) 27
  have T2 := fun W => two_cells W (.slice a3 qx.length c3) (.slice a4 qy.length c4) 27
  have m1 : Below w.heap.size w (w.alloc (.cells #[.slice a1 px.length c1, .slice a2 py.length c2] 27)) := (Below.refl _ _).alloc (Nat.le_refl _) _
  have s1 : (w.alloc (.cells #[.slice a1 px.length c1, .slice a2 py.length c2] 27)).heap.size = w.heap.size + 1 := by simp
  have PV1 := fun W h h' => pointValid_any W g1 g2 a1 a2 c1 c2 px py h h' bx by'
  have PV2 := fun W h h' => pointValid_any W g3 g4 a3 a4 c3 c4 qx qy h h' bu bv
  obtain ⟨CX, CY⟩ := T
  go_enter Tryd.func29, Tryd.ntmps29
  go_upto_region 1 with fail
  generalize w.alloc (.cells #[.slice a1 px.length c1, .slice a2 py.length c2] 27) = wa at *
  have T2' := T2 wa
  have m2 : Below wa.heap.size wa (wa.alloc (.cells #[.slice a3 qx.length c3, .slice a4 qy.length c4] 27)) := (Below.refl _ _).alloc (Nat.le_refl _) _
  have s2 : (wa.alloc (.cells #[.slice a3 qx.length c3, .slice a4 qy.length c4] 27)).heap.size = wa.heap.size + 1 := by simp
  rw [s1] at T2' s2
  obtain ⟨CU, CV⟩ := T2'
  generalize wa.alloc (.cells #[.slice a3 qx.length c3, .slice a4 qy.length c4] 27) = wb at *
  change Code.wp _ _ _ _ (wb.alloc pObj)
  have TR := there_p wb
  have TZ : Two (wb.alloc pObj) wb.heap.size (.slice none 0 0) (.slice none 0 0) := Two.new wb (.slice none 0 0) (.slice none 0 0) 27
  have m3 : Below wb.heap.size wb (wb.alloc pObj) := (Below.refl _ _).alloc (Nat.le_refl _) _
  rw [s2] at TR TZ
  replace CX := ((nxt m2 m3).cell (block_lt_of_cell CX)).trans CX
  replace CY := ((nxt m2 m3).cell (block_lt_of_cell CY)).trans CY
  replace CU := (m3.cell (block_lt_of_cell CU)).trans CU
  replace CV := (m3.cell (block_lt_of_cell CV)).trans CV
  have N := nxt (nxt m1 m2) m3
  have RX := hx.up N
  have RY := hy.up N
  have RU := hu.up N
  have RV := hv.up N
  clear hx hy hu hv T2 m1 m2 m3 s1 s2
  generalize wb.alloc pObj = wr at *
  cases h1 : validP px py with
  | false =>
    have KX : Hid (paX px py qx qy = []) := by show _ = _; unfold paX; rw [if_neg (fun h => by rw [h1] at h; simp at h)]
    have KY : Hid (paY px py qx qy = []) := by show _ = _; unfold paY; rw [if_neg (fun h => by rw [h1] at h; simp at h)]
    simp only [h1] at PV1
    go_wp2_with fail
    refine (PV1 wr RX RY).mono ?_
    rintro e w1 ⟨rfl, n1⟩
    replace N := nxt N n1
    obtain ⟨y0, y1, f0, f1⟩ := TZ.up n1
    clear PV1 PV2 n1 CX CY CU CV RX RY RU RV TR TZ
    go_wp2
    refine bodyPost_ret (v := .agg #[.slice none 0 0, .slice none 0 0]) (by simp [results, Tryd.results29, go_sem, y0, y1]) rfl ⟨by rw [KX.out, KY.out]; exact newPt_nil, ?_⟩
    exact (N.setCell (by show w.heap.size ≤ w.heap.size + 1 + 1; omega) _).setCell (by show w.heap.size ≤ w.heap.size + 1 + 1; omega) _
  | true =>
    simp only [h1] at PV1
    go_wp2_with fail
    refine (PV1 wr RX RY).mono ?_
    rintro e w1 ⟨rfl, n1⟩
    replace CX := (n1.cell (block_lt_of_cell CX)).trans CX
    replace CY := (n1.cell (block_lt_of_cell CY)).trans CY
    replace CU := (n1.cell (block_lt_of_cell CU)).trans CU
    replace CV := (n1.cell (block_lt_of_cell CV)).trans CV
    replace RX := RX.up n1
    replace RY := RY.up n1
    replace RU := RU.up n1
    replace RV := RV.up n1
    replace N := nxt N n1
    replace TR := there_up (by omega) TR n1
    replace TZ := TZ.up n1
    clear PV1 n1
    cases h2 : validP qx qy with
    | false =>
      have KX : Hid (paX px py qx qy = []) := by show _ = _; unfold paX; rw [if_neg (fun h => by rw [h2] at h; simp at h)]
      have KY : Hid (paY px py qx qy = []) := by show _ = _; unfold paY; rw [if_neg (fun h => by rw [h2] at h; simp at h)]
      simp only [h2] at PV2
      go_wp2_with fail
      refine (PV2 w1 RU RV).mono ?_
      rintro e w2 ⟨rfl, n1⟩
      replace N := nxt N n1
      obtain ⟨y0, y1, f0, f1⟩ := TZ.up n1
      clear PV2 n1 CX CY CU CV RX RY RU RV TR TZ
      go_wp2
      refine bodyPost_ret (v := .agg #[.slice none 0 0, .slice none 0 0]) (by simp [results, Tryd.results29, go_sem, y0, y1]) rfl ⟨by rw [KX.out, KY.out]; exact newPt_nil, ?_⟩
      exact (N.setCell (by show w.heap.size ≤ w.heap.size + 1 + 1; omega) _).setCell (by show w.heap.size ≤ w.heap.size + 1 + 1; omega) _
    | true =>
      have KX : Hid (paX px py qx qy = fill (byt (addX (num px, num py) (num qx, num qy) % PP)) 32) := by show _ = _; unfold paX; rw [if_pos ⟨h1, h2⟩]
      have KY : Hid (paY px py qx qy = fill (byt (addY (num px, num py) (num qx, num qy) % PP)) 32) := by show _ = _; unfold paY; rw [if_pos ⟨h1, h2⟩]
      have l1 := hide (valid_len h1)
      have l2 := hide (valid_len h2)
      simp only [h2] at PV2
      go_wp2_with fail
      refine (PV2 w1 RU RV).mono ?_
      rintro e w2 ⟨rfl, n1⟩
      replace CX := (n1.cell (block_lt_of_cell CX)).trans CX
      replace CY := (n1.cell (block_lt_of_cell CY)).trans CY
      replace CU := (n1.cell (block_lt_of_cell CU)).trans CU
      replace CV := (n1.cell (block_lt_of_cell CV)).trans CV
      have OX := hide (of_ok (RX.up n1) bx l1.1)
      have OY := hide (of_ok (RY.up n1) by' l1.2)
      have OU := hide (of_ok (RU.up n1) bu l2.1)
      have OV := hide (of_ok (RV.up n1) bv l2.2)
      replace N := nxt N n1
      replace TR := there_up (by omega) TR n1
      clear PV2 n1 RX RY RU RV TZ h1 h2 l1 l2
      go_upto_region 3 with fail
      refine region_new16 4 3 2 5 23 _ (fun i => [Fact.eq (.pointer (some ⟨w.heap.size, 0, none⟩)), Fact.eq (.slice a1 px.length c1), EL (num px), NB w2 16].getD i Fact.no) (num px) (by kernel_rfl) rfl rfl rfl (by kernel_rfl) (by kernel_rfl) rfl rfl ?_ ?_
      · intro i hi
        obtain rfl | rfl | rfl | rfl : i = 0 ∨ i = 1 ∨ i = 2 ∨ i = 3 := by omega
        · exact step_fld rfl 27 2 0 rfl (by kernel_rfl) _ _ rfl (fxP _) rfl
        · exact step_lds rfl 21 0 rfl (by kernel_rfl) _ _ rfl _ _ _ CX rfl
        · exact step_of rfl 22 1 rfl (by kernel_rfl) OX.out rfl rfl
        · exact step_new16 rfl rfl rfl
      intro qy3 q5 W3' v5 l5 n E5 T5
      replace CX := (n.cell (block_lt_of_cell CX)).trans CX
      replace CY := (n.cell (block_lt_of_cell CY)).trans CY
      replace CU := (n.cell (block_lt_of_cell CU)).trans CU
      replace CV := (n.cell (block_lt_of_cell CV)).trans CV
      replace OX := hide (of_up5 OX.out n)
      replace OY := hide (of_up5 OY.out n)
      replace OU := hide (of_up5 OU.out n)
      replace OV := hide (of_up5 OV.out n)
      replace TR := there_up (by omega) TR n
      replace N := nxt N n
      clear n T5
      simp only [puts, v5, Act.put, List.setIfInBounds_toArray, List.set_cons_succ, List.set_cons_zero]
      clear v5
      go_upto_region 4 with fail
      refine region_new16 4 3 2 6 26 _ (fun i => [Fact.eq (.pointer (some ⟨w.heap.size, 1, none⟩)), Fact.eq (.slice a2 py.length c2), EL (num py), NB W3' 16].getD i Fact.no) (num py) (by kernel_rfl) rfl rfl rfl (by kernel_rfl) (by kernel_rfl) rfl rfl ?_ ?_
      · intro i hi
        obtain rfl | rfl | rfl | rfl : i = 0 ∨ i = 1 ∨ i = 2 ∨ i = 3 := by omega
        · exact step_fld rfl 27 2 1 rfl (by kernel_rfl) _ _ rfl (fyP _) rfl
        · exact step_lds rfl 24 0 rfl (by kernel_rfl) _ _ rfl _ _ _ CY rfl
        · exact step_of rfl 25 1 rfl (by kernel_rfl) OY.out rfl rfl
        · exact step_new16 rfl rfl rfl
      intro qy4 q6 W4' v6 l6 n E6 T6
      replace CX := (n.cell (block_lt_of_cell CX)).trans CX
      replace CY := (n.cell (block_lt_of_cell CY)).trans CY
      replace CU := (n.cell (block_lt_of_cell CU)).trans CU
      replace CV := (n.cell (block_lt_of_cell CV)).trans CV
      replace OX := hide (of_up5 OX.out n)
      replace OY := hide (of_up5 OY.out n)
      replace OU := hide (of_up5 OU.out n)
      replace OV := hide (of_up5 OV.out n)
      replace E5 := E5.up n
      replace TR := there_up (by omega) TR n
      replace N := nxt N n
      clear n T6
      simp only [puts, v6, Act.put, List.setIfInBounds_toArray, List.set_cons_succ, List.set_cons_zero]
      clear v6
      go_upto_region 5 with fail
      refine region_new16 4 3 2 7 29 _ (fun i => [Fact.eq (.pointer (some ⟨(w.heap.size + 1), 0, none⟩)), Fact.eq (.slice a3 qx.length c3), EL (num qx), NB W4' 16].getD i Fact.no) (num qx) (by kernel_rfl) rfl rfl rfl (by kernel_rfl) (by kernel_rfl) rfl rfl ?_ ?_
      · intro i hi
        obtain rfl | rfl | rfl | rfl : i = 0 ∨ i = 1 ∨ i = 2 ∨ i = 3 := by omega
        · exact step_fld rfl 27 3 0 rfl (by kernel_rfl) _ _ rfl (fxP _) rfl
        · exact step_lds rfl 27 0 rfl (by kernel_rfl) _ _ rfl _ _ _ CU rfl
        · exact step_of rfl 28 1 rfl (by kernel_rfl) OU.out rfl rfl
        · exact step_new16 rfl rfl rfl
      intro qy5 q7 W5 v7 l7 n E7 T7
      replace CX := (n.cell (block_lt_of_cell CX)).trans CX
      replace CY := (n.cell (block_lt_of_cell CY)).trans CY
      replace CU := (n.cell (block_lt_of_cell CU)).trans CU
      replace CV := (n.cell (block_lt_of_cell CV)).trans CV
      replace OX := hide (of_up5 OX.out n)
      replace OY := hide (of_up5 OY.out n)
      replace OU := hide (of_up5 OU.out n)
      replace OV := hide (of_up5 OV.out n)
      replace E5 := E5.up n
      replace E6 := E6.up n
      replace TR := there_up (by omega) TR n
      replace N := nxt N n
      clear n T7
      simp only [puts, v7, Act.put, List.setIfInBounds_toArray, List.set_cons_succ, List.set_cons_zero]
      clear v7
      go_upto_region 6 with fail
      refine region_new16 4 3 2 8 32 _ (fun i => [Fact.eq (.pointer (some ⟨(w.heap.size + 1), 1, none⟩)), Fact.eq (.slice a4 qy.length c4), EL (num qy), NB W5 16].getD i Fact.no) (num qy) (by kernel_rfl) rfl rfl rfl (by kernel_rfl) (by kernel_rfl) rfl rfl ?_ ?_
      · intro i hi
        obtain rfl | rfl | rfl | rfl : i = 0 ∨ i = 1 ∨ i = 2 ∨ i = 3 := by omega
        · exact step_fld rfl 27 3 1 rfl (by kernel_rfl) _ _ rfl (fyP _) rfl
        · exact step_lds rfl 30 0 rfl (by kernel_rfl) _ _ rfl _ _ _ CV rfl
        · exact step_of rfl 31 1 rfl (by kernel_rfl) OV.out rfl rfl
        · exact step_new16 rfl rfl rfl
      intro qy6 q8 W6 v8 l8 n E8 T8
      replace CX := (n.cell (block_lt_of_cell CX)).trans CX
      replace CY := (n.cell (block_lt_of_cell CY)).trans CY
      replace CU := (n.cell (block_lt_of_cell CU)).trans CU
      replace CV := (n.cell (block_lt_of_cell CV)).trans CV
      replace OX := hide (of_up5 OX.out n)
      replace OY := hide (of_up5 OY.out n)
      replace OU := hide (of_up5 OU.out n)
      replace OV := hide (of_up5 OV.out n)
      replace E5 := E5.up n
      replace E6 := E6.up n
      replace E7 := E7.up n
      replace TR := there_up (by omega) TR n
      replace N := nxt N n
      clear n T8
      simp only [puts, v8, Act.put, List.setIfInBounds_toArray, List.set_cons_succ, List.set_cons_zero]
      clear v8
      go_upto_region 7 with fail
      refine region_new16 10 9 8 9 41 _ (fun i => [EL dE, EL (num px), EL (num qx), EL ((num px) * (num qx)), EL (num py), EL (num qy), EL ((num py) * (num qy)), EL (((num px) * (num qx)) * ((num py) * (num qy))), EL ((dE) * (((num px) * (num qx)) * ((num py) * (num qy)))), NB W6 16].getD i Fact.no) ((dE) * (((num px) * (num qx)) * ((num py) * (num qy)))) (by kernel_rfl) rfl rfl rfl (by kernel_rfl) (by kernel_rfl) rfl rfl ?_ ?_
      · intro i hi
        obtain rfl | rfl | rfl | rfl | rfl | rfl | rfl | rfl | rfl | rfl : i = 0 ∨ i = 1 ∨ i = 2 ∨ i = 3 ∨ i = 4 ∨ i = 5 ∨ i = 6 ∨ i = 7 ∨ i = 8 ∨ i = 9 := by omega
        · exact step_d rfl rfl rfl
        · exact step_el rfl 51 5 rfl Go.Proofs.YtmhfjkhanlciiaaDoor.u50 i50 (by kernel_rfl) _ _ rfl _ E5 rfl
        · exact step_el rfl 51 7 rfl Go.Proofs.YtmhfjkhanlciiaaDoor.u50 i50 (by kernel_rfl) _ _ rfl _ E7 rfl
        · exact step_mul rfl 34 35 1 2 _ _ rfl (by kernel_rfl) (by kernel_rfl) rfl rfl rfl
        · exact step_el rfl 51 6 rfl Go.Proofs.YtmhfjkhanlciiaaDoor.u50 i50 (by kernel_rfl) _ _ rfl _ E6 rfl
        · exact step_el rfl 51 8 rfl Go.Proofs.YtmhfjkhanlciiaaDoor.u50 i50 (by kernel_rfl) _ _ rfl _ E8 rfl
        · exact step_mul rfl 37 38 4 5 _ _ rfl (by kernel_rfl) (by kernel_rfl) rfl rfl rfl
        · exact step_mul rfl 36 39 3 6 _ _ rfl (by kernel_rfl) (by kernel_rfl) rfl rfl rfl
        · exact step_mul rfl 33 40 0 7 _ _ rfl (by kernel_rfl) (by kernel_rfl) rfl rfl rfl
        · exact step_new16 rfl rfl rfl
      intro qy7 q9 W7 v9 l9 n E9 T9
      replace CX := (n.cell (block_lt_of_cell CX)).trans CX
      replace CY := (n.cell (block_lt_of_cell CY)).trans CY
      replace CU := (n.cell (block_lt_of_cell CU)).trans CU
      replace CV := (n.cell (block_lt_of_cell CV)).trans CV
      replace OX := hide (of_up5 OX.out n)
      replace OY := hide (of_up5 OY.out n)
      replace OU := hide (of_up5 OU.out n)
      replace OV := hide (of_up5 OV.out n)
      replace E5 := E5.up n
      replace E6 := E6.up n
      replace E7 := E7.up n
      replace E8 := E8.up n
      replace TR := there_up (by omega) TR n
      replace N := nxt N n
      clear n T9
      simp only [puts, v9, Act.put, List.setIfInBounds_toArray, List.set_cons_succ, List.set_cons_zero]
      clear v9
      go_upto_region 8 with fail
      refine region_new16 13 12 11 10 53 _ (fun i => [EL (num px), EL (num qy), EL ((num px) * (num qy)), EL (num py), EL (num qx), EL ((num py) * (num qx)), EL (((num px) * (num qy)) + ((num py) * (num qx))), EL 1, EL ((dE) * (((num px) * (num qx)) * ((num py) * (num qy)))), EL ((1) + ((dE) * (((num px) * (num qx)) * ((num py) * (num qy))))), EL (iv ((1) + ((dE) * (((num px) * (num qx)) * ((num py) * (num qy)))))), EL ((((num px) * (num qy)) + ((num py) * (num qx))) * (iv ((1) + ((dE) * (((num px) * (num qx)) * ((num py) * (num qy))))))), NB W7 16].getD i Fact.no) ((((num px) * (num qy)) + ((num py) * (num qx))) * (iv ((1) + ((dE) * (((num px) * (num qx)) * ((num py) * (num qy))))))) (by kernel_rfl) rfl rfl rfl (by kernel_rfl) (by kernel_rfl) rfl rfl ?_ ?_
      · intro i hi
        obtain rfl | rfl | rfl | rfl | rfl | rfl | rfl | rfl | rfl | rfl | rfl | rfl | rfl : i = 0 ∨ i = 1 ∨ i = 2 ∨ i = 3 ∨ i = 4 ∨ i = 5 ∨ i = 6 ∨ i = 7 ∨ i = 8 ∨ i = 9 ∨ i = 10 ∨ i = 11 ∨ i = 12 := by omega
        · exact step_el rfl 51 5 rfl Go.Proofs.YtmhfjkhanlciiaaDoor.u50 i50 (by kernel_rfl) _ _ rfl _ E5 rfl
        · exact step_el rfl 51 8 rfl Go.Proofs.YtmhfjkhanlciiaaDoor.u50 i50 (by kernel_rfl) _ _ rfl _ E8 rfl
        · exact step_mul rfl 42 43 0 1 _ _ rfl (by kernel_rfl) (by kernel_rfl) rfl rfl rfl
        · exact step_el rfl 51 6 rfl Go.Proofs.YtmhfjkhanlciiaaDoor.u50 i50 (by kernel_rfl) _ _ rfl _ E6 rfl
        · exact step_el rfl 51 7 rfl Go.Proofs.YtmhfjkhanlciiaaDoor.u50 i50 (by kernel_rfl) _ _ rfl _ E7 rfl
        · exact step_mul rfl 45 46 3 4 _ _ rfl (by kernel_rfl) (by kernel_rfl) rfl rfl rfl
        · exact step_add rfl 44 47 2 5 _ _ rfl (by kernel_rfl) (by kernel_rfl) rfl rfl rfl
        · exact step_small rfl 1 (by omega) rfl rfl
        · exact step_el rfl 51 9 rfl Go.Proofs.YtmhfjkhanlciiaaDoor.u50 i50 (by kernel_rfl) _ _ rfl _ E9 rfl
        · exact step_add rfl 49 50 7 8 _ _ rfl (by kernel_rfl) (by kernel_rfl) rfl rfl rfl
        · exact step_inv rfl 51 9 _ rfl (by kernel_rfl) rfl rfl
        · exact step_mul rfl 48 52 6 10 _ _ rfl (by kernel_rfl) (by kernel_rfl) rfl rfl rfl
        · exact step_new16 rfl rfl rfl
      intro qy8 q10 W8 v10 l10 n E10 T10
      replace CX := (n.cell (block_lt_of_cell CX)).trans CX
      replace CY := (n.cell (block_lt_of_cell CY)).trans CY
      replace CU := (n.cell (block_lt_of_cell CU)).trans CU
      replace CV := (n.cell (block_lt_of_cell CV)).trans CV
      replace OX := hide (of_up5 OX.out n)
      replace OY := hide (of_up5 OY.out n)
      replace OU := hide (of_up5 OU.out n)
      replace OV := hide (of_up5 OV.out n)
      replace E5 := E5.up n
      replace E6 := E6.up n
      replace E7 := E7.up n
      replace E8 := E8.up n
      replace E9 := E9.up n
      replace TR := there_up (by omega) TR n
      replace N := nxt N n
      clear n T10
      simp only [puts, v10, Act.put, List.setIfInBounds_toArray, List.set_cons_succ, List.set_cons_zero]
      clear v10
      go_upto_region 9 with fail
      refine region_new16 13 12 11 11 65 _ (fun i => [EL (num py), EL (num qy), EL ((num py) * (num qy)), EL (num px), EL (num qx), EL ((num px) * (num qx)), EL (((num py) * (num qy)) + ((num px) * (num qx))), EL 1, EL ((dE) * (((num px) * (num qx)) * ((num py) * (num qy)))), EL ((1) - ((dE) * (((num px) * (num qx)) * ((num py) * (num qy))))), EL (iv ((1) - ((dE) * (((num px) * (num qx)) * ((num py) * (num qy)))))), EL ((((num py) * (num qy)) + ((num px) * (num qx))) * (iv ((1) - ((dE) * (((num px) * (num qx)) * ((num py) * (num qy))))))), NB W8 16].getD i Fact.no) ((((num py) * (num qy)) + ((num px) * (num qx))) * (iv ((1) - ((dE) * (((num px) * (num qx)) * ((num py) * (num qy))))))) (by kernel_rfl) rfl rfl rfl (by kernel_rfl) (by kernel_rfl) rfl rfl ?_ ?_
      · intro i hi
        obtain rfl | rfl | rfl | rfl | rfl | rfl | rfl | rfl | rfl | rfl | rfl | rfl | rfl : i = 0 ∨ i = 1 ∨ i = 2 ∨ i = 3 ∨ i = 4 ∨ i = 5 ∨ i = 6 ∨ i = 7 ∨ i = 8 ∨ i = 9 ∨ i = 10 ∨ i = 11 ∨ i = 12 := by omega
        · exact step_el rfl 51 6 rfl Go.Proofs.YtmhfjkhanlciiaaDoor.u50 i50 (by kernel_rfl) _ _ rfl _ E6 rfl
        · exact step_el rfl 51 8 rfl Go.Proofs.YtmhfjkhanlciiaaDoor.u50 i50 (by kernel_rfl) _ _ rfl _ E8 rfl
        · exact step_mul rfl 54 55 0 1 _ _ rfl (by kernel_rfl) (by kernel_rfl) rfl rfl rfl
        · exact step_el rfl 51 5 rfl Go.Proofs.YtmhfjkhanlciiaaDoor.u50 i50 (by kernel_rfl) _ _ rfl _ E5 rfl
        · exact step_el rfl 51 7 rfl Go.Proofs.YtmhfjkhanlciiaaDoor.u50 i50 (by kernel_rfl) _ _ rfl _ E7 rfl
        · exact step_mul rfl 57 58 3 4 _ _ rfl (by kernel_rfl) (by kernel_rfl) rfl rfl rfl
        · exact step_add rfl 56 59 2 5 _ _ rfl (by kernel_rfl) (by kernel_rfl) rfl rfl rfl
        · exact step_small rfl 1 (by omega) rfl rfl
        · exact step_el rfl 51 9 rfl Go.Proofs.YtmhfjkhanlciiaaDoor.u50 i50 (by kernel_rfl) _ _ rfl _ E9 rfl
        · exact step_sub rfl 61 62 7 8 _ _ rfl (by kernel_rfl) (by kernel_rfl) rfl rfl rfl
        · exact step_inv rfl 63 9 _ rfl (by kernel_rfl) rfl rfl
        · exact step_mul rfl 60 64 6 10 _ _ rfl (by kernel_rfl) (by kernel_rfl) rfl rfl rfl
        · exact step_new16 rfl rfl rfl
      intro qy9 q11 W9 v11 l11 n E11 T11
      replace CX := (n.cell (block_lt_of_cell CX)).trans CX
      replace CY := (n.cell (block_lt_of_cell CY)).trans CY
      replace CU := (n.cell (block_lt_of_cell CU)).trans CU
      replace CV := (n.cell (block_lt_of_cell CV)).trans CV
      replace OX := hide (of_up5 OX.out n)
      replace OY := hide (of_up5 OY.out n)
      replace OU := hide (of_up5 OU.out n)
      replace OV := hide (of_up5 OV.out n)
      replace E5 := E5.up n
      replace E6 := E6.up n
      replace E7 := E7.up n
      replace E8 := E8.up n
      replace E9 := E9.up n
      replace E10 := E10.up n
      replace TR := there_up (by omega) TR n
      replace N := nxt N n
      clear n T11
      simp only [puts, v11, Act.put, List.setIfInBounds_toArray, List.set_cons_succ, List.set_cons_zero]
      clear v11
      go_upto_region 10 with fail
      refine region_putP 5 4 4 70 _ (fun i => [EL ((((num px) * (num qy)) + ((num py) * (num qx))) * (iv ((1) + ((dE) * (((num px) * (num qx)) * ((num py) * (num qy))))))), RN W9 (fun xs => xs = fill (byt (((((num px) * (num qy)) + ((num py) * (num qx))) * (iv ((1) + ((dE) * (((num px) * (num qx)) * ((num py) * (num qy))))))) % PP)) 32), EL ((((num py) * (num qy)) + ((num px) * (num qx))) * (iv ((1) - ((dE) * (((num px) * (num qx)) * ((num py) * (num qy))))))), RN W9 (fun xs => xs = fill (byt (((((num py) * (num qy)) + ((num px) * (num qx))) * (iv ((1) - ((dE) * (((num px) * (num qx)) * ((num py) * (num qy))))))) % PP)) 32), PT W9 (fun xs ys => xs = fill (byt (((((num px) * (num qy)) + ((num py) * (num qx))) * (iv ((1) + ((dE) * (((num px) * (num qx)) * ((num py) * (num qy))))))) % PP)) 32 ∧ ys = fill (byt (((((num py) * (num qy)) + ((num px) * (num qx))) * (iv ((1) - ((dE) * (((num px) * (num qx)) * ((num py) * (num qy))))))) % PP)) 32)].getD i Fact.no) (fun xs ys => xs = fill (byt (((((num px) * (num qy)) + ((num py) * (num qx))) * (iv ((1) + ((dE) * (((num px) * (num qx)) * ((num py) * (num qy))))))) % PP)) 32 ∧ ys = fill (byt (((((num py) * (num qy)) + ((num px) * (num qx))) * (iv ((1) - ((dE) * (((num px) * (num qx)) * ((num py) * (num qy))))))) % PP)) 32) _ (by kernel_rfl) rfl rfl rfl (by kernel_rfl) rfl TR (by kernel_rfl) rfl ?_ ?_
      · intro i hi
        obtain rfl | rfl | rfl | rfl | rfl : i = 0 ∨ i = 1 ∨ i = 2 ∨ i = 3 ∨ i = 4 := by omega
        · exact step_el rfl 51 10 rfl Go.Proofs.YtmhfjkhanlciiaaDoor.u50 i50 (by kernel_rfl) _ _ rfl _ E10 rfl
        · exact step_bytes rfl 66 0 _ rfl (by kernel_rfl) rfl rfl
        · exact step_el rfl 51 11 rfl Go.Proofs.YtmhfjkhanlciiaaDoor.u50 i50 (by kernel_rfl) _ _ rfl _ E11 rfl
        · exact step_bytes rfl 68 2 _ rfl (by kernel_rfl) rfl rfl
        · exact step_bp rfl 67 69 1 3 _ _ rfl (by kernel_rfl) (by kernel_rfl) rfl rfl rfl
      rintro vt Wa Wb ps qs b1 b2 d1 d2 h1 h2 n bq rg o1 o2 l1 l2 ⟨rfl, rfl⟩ nb
      have NS := nb w w.heap.size (nxt N n) (by omega)
      simp only [puts, Act.put, List.setIfInBounds_toArray, List.set_cons_succ, List.set_cons_zero]
      have z1 := N.size
      clear N n bq nb TR CX CY CU CV OX OY OU OV E5 E6 E7 E8 E9 E10 E11
      rw [show fill (byt (((((num px) * (num qy)) + ((num py) * (num qx))) * (iv ((1) + ((dE) * (((num px) * (num qx)) * ((num py) * (num qy))))))) % PP)) 32 = paX px py qx qy from KX.out.symm] at o1 rg
      rw [show fill (byt (((((num py) * (num qy)) + ((num px) * (num qx))) * (iv ((1) - ((dE) * (((num px) * (num qx)) * ((num py) * (num qy))))))) % PP)) 32 = paY px py qx qy from KY.out.symm] at o2 rg
      clear KX KY
      go_wp2
      obtain ⟨fs, hfs⟩ := uP
      exact bodyPost_ret (v := .agg #[_, _]) (results_cell_mid Tryd.results29 _ _ (w.heap.size + 1 + 1) _ _ rfl rg hfs rfl iP) rfl ⟨⟨b1, b2, d1, d2, h1, h2, rfl, o1, o2, by omega, by omega⟩, NS⟩
end Go.Proofs.YtmhfjkhanlciiaaDoor

/-
  The model's l5Small.
-/
namespace Go.Proofs.YtmhfjkhanlciiaaDoor
set_option maxRecDepth 100000
open Go Go.RowKit

/-- A root, as it is answered. -/
def RT (A : Int) : Fact := ⟨fun v _ => ∃ t, v = .tuple #[.bool (rootB A), ag16 t] ∧ L16 t ∧ s16 t 16 % PP = rootV A % PP, fun _ h => h⟩
theorem en_root : enters Tryd.prog 96 = true := by kernel_rfl
section
variable {ops : Array Oper} {Q : Exit → Act → World → Prop} {md : Region.Mode} {F : Nat → Fact} {a0 : Act} {w0 : World} {i : Nat} {o : Oper} {ts : Array TypeId}
theorem step_root (hi : ops[i]? = some o) (p j : Nat) (A : Int) (hop : o.op = .call { callee := .value (.func 96), args := #[.tmp p], argTypes := ts })
    (hj : waits md ops i j p = true) (hFj : F j = EL A) (hFi : F i = RT A) : StepOk Tryd.prog md ops Q F a0 w0 i := by
  refine step_call hi _ _ ts hop en_root fun a w _ _ hF => ?_
  have ea := hF j p hj
  rw [hFj] at ea
  obtain ⟨t, e1, L1, V1⟩ := ea
  show Calls Tryd.prog 96 #[a.tmps.getD p undef] w _
  rw [e1]
  refine (l2RootF_any w t L1 A V1).mono ?_
  rintro r w' ⟨u, rfl, L, V, hn⟩
  rw [hFi]
  exact ⟨_, rfl, hn, u, rfl, L, V⟩
theorem step_ext0 {P : Program} (hi : ops[i]? = some o) (p j : Nat) (A : Int) (hop : o.op = .extract (.tmp p) 0) (hj : waits md ops i j p = true) (hFj : F j = RT A) (hFi : F i = Fact.eq (.bool (rootB A))) : StepOk P md ops Q F a0 w0 i := by
  refine step_pure hi fun a w _ _ hf => ⟨.bool (rootB A), ?_, by rw [hFi]; exact rfl⟩
  have e := hf j p hj
  rw [hFj] at e
  obtain ⟨t, e, _⟩ := e
  have e' : a.eval (.tmp p) = .tuple #[.bool (rootB A), ag16 t] := e
  simp only [execOp, hop, e']
  rfl
theorem step_ext1 {P : Program} (hi : ops[i]? = some o) (p j : Nat) (A : Int) (hop : o.op = .extract (.tmp p) 1) (hj : waits md ops i j p = true) (hFj : F j = RT A) (hFi : F i = EL (rootV A)) : StepOk P md ops Q F a0 w0 i := by
  refine step_pure hi fun a w _ _ hf => ?_
  have e := hf j p hj
  rw [hFj] at e
  obtain ⟨t, e, L, V⟩ := e
  have e' : a.eval (.tmp p) = .tuple #[.bool (rootB A), ag16 t] := e
  refine ⟨ag16 t, ?_, by rw [hFi]; exact ⟨t, rfl, L, V⟩⟩
  simp only [execOp, hop, e']
  rfl
end
section
variable {ops : Array Oper} {Q : Exit → Act → World → Prop} {a0 : Act} {w : World} {id : Nat} {draw : Bool}
theorem region_new16F (k jA jV pA pV : Nat) (o : Oper) (F : Nat → Fact) (A : Int) (hT : textOk .any ops a0.tmps.size k = true) (hk : ops[k]? = some o) (hd : o.dst = none) (hop : o.op = .store 51 (.tmp pA) (.tmp pV))
    (wA : writes ops jA pA = true) (wV : writes ops jV pV = true) (FA : F jA = NB w 16) (FV : F jV = EL A) (steps : ∀ i, i < k → StepOk Tryd.prog .any ops Q F a0 w i)
    (fin : ∀ (vs : Nat → Value) (q : Nat) (W : World), vs pA = .pointer (some ⟨q, 0, none⟩) → w.heap.size ≤ q → Below w.heap.size w W → Elt W q 0 A → W.there q 0 16 → (∀ i d, writes ops i d = true → ∃ Wp, (F i).p (vs d) Wp) → Q .normal (puts vs a0 ops.toList) W) :
    (Code.region id ops draw).wp Tryd.prog Q a0 w := by
  refine region_store k o F (by kernel_rfl) hT hk hd steps fun a W hb hw hF => ?_
  have h1 := hF jA pA wA
  have h2 := hF jV pV wV
  rw [FA] at h1
  rw [FV] at h2
  obtain ⟨_, q, eq, th, hq⟩ := h1
  obtain ⟨t, ev, L, V⟩ := h2
  refine wp_store_mid 51 (.tmp pA) (.tmp pV) hop q 0 (a16 t) eq ev (by rw [a16_size]; exact th) (by rw [a16_size]; exact i50) (a16_one t) ?_
  obtain ⟨vs, hvs⟩ : ∃ vs : Nat → Value, ∀ d, a.tmps.getD d undef = vs d := ⟨_, fun _ => rfl⟩
  rw [hd]
  show Q .normal a _
  rw [puts_of hT rfl hb vs hvs]
  exact fin vs q _ ((hvs pA).symm.trans eq) hq (below_setCells hq _ _ _ hw) (set_elt th L V) (World.there_setCells th _ _ _) (fun i d h => ⟨W, by rw [← hvs]; exact hF i d h⟩)
end
end Go.Proofs.YtmhfjkhanlciiaaDoor

/-
  Numbers told as thirty-two bytes.
-/
namespace Go.Proofs.YtmhfjkhanlciiaaDoor
set_option maxRecDepth 100000
open Go.RowKit

theorem lsum_bytS (v : Int) (h0 : 0 ≤ v) : ∀ n, lsum (byt v) n = v % 256 ^ n
  | 0 => by simp [lsum]
  | n + 1 => by
    have ih := lsum_bytS v h0 n
    have hp := p256_pos n
    rw [lsum, ih, byt, Int.pow_succ]
    have e1 := Int.emod_add_mul_ediv v (256 ^ n)
    have e2 := Int.emod_add_mul_ediv v (256 ^ n * 256)
    rw [← Int.ediv_ediv_of_nonneg (Int.le_of_lt hp)] at e2
    have e3 := Int.emod_add_mul_ediv (v / 256 ^ n) 256
    generalize v / 256 ^ n = q at *
    generalize v % 256 ^ n = r at *
    generalize v % (256 ^ n * 256) = s at *
    generalize (256 : Int) ^ n = p at *
    generalize q / 256 = a at *
    generalize q % 256 = b at *
    subst e3
    have : (b + 256 * a) * p = b * p + 256 * a * p := Int.add_mul _ _ _
    have h1 : p * (b + 256 * a) = b * p + 256 * a * p := by rw [Int.mul_comm, this]
    have h2 : p * 256 * a = 256 * a * p := by rw [Int.mul_assoc, Int.mul_comm]
    omega
theorem num_modS (v : Int) : num (fill (byt (v % PP)) 32) = v % PP := by
  have h0 := Int.emod_nonneg v (show PP ≠ 0 by decide)
  have h1 := Int.emod_lt_of_pos v (show (0 : Int) < PP by decide)
  unfold num
  rw [fill_len, lsum_congr (b := byt (v % PP)) 32 (fun j hj => fill_get _ _ _ hj), lsum_bytS _ h0, Int.emod_eq_of_lt h0 (Int.lt_trans h1 (by decide))]
theorem bytes_L (v : Int) (n : Nat) : Byt (fill (byt v) n) := fun i => by
  rcases Nat.lt_or_ge i n with h | h
  · rw [fill_get _ _ _ h]
    unfold byt
    omega
  · rw [List.getD_eq_getElem?_getD, List.getElem?_eq_none (by rw [fill_len]; omega)]
    simp
theorem bval_zero_all {xs : List Int} (h : Byt xs) (hb : bval xs = 0) : ∀ j, xs.getD j 0 = 0 := by
  intro j
  by_cases hj : j < xs.length
  · have e : dig xs (xs.length - 1 - j) = xs.getD j 0 := by
      unfold dig
      rw [if_pos (by omega), show xs.length - 1 - (xs.length - 1 - j) = j by omega]
    have d : dig xs (xs.length - 1 - j) = dig [] (xs.length - 1 - j) := dig_same (b := []) h (fun i => by simp) (hb.trans rfl) _
    rw [← e, d]
    rfl
  · rw [List.getD_eq_getElem?_getD, List.getElem?_eq_none (by omega)]
    rfl
theorem lsum_all0 {a : Nat → Int} : ∀ n, (∀ j, j < n → a j = 0) → lsum a n = 0
  | 0, _ => rfl
  | n + 1, h => by rw [lsum, lsum_all0 n (fun j hj => h j (by omega)), h n (by omega)]; omega
theorem canon_pos' {zs : List Int} {v : Int} (h : Canon zs v) (hl : 0 < zs.length) : v ≠ 0 := fun e => by
  have := bval_zero_all h.1 (h.2.1.trans e) 0
  exact h.2.2 hl this
end Go.Proofs.YtmhfjkhanlciiaaDoor

/-
  The model's l2IsZero.
-/
namespace Go.Proofs.YtmhfjkhanlciiaaDoor
set_option maxRecDepth 100000
open Go Go.RowKit

theorem zero_bytes (V : Int) : bval (fill (byt (V % PP)) 32) = 0 ↔ V % PP = 0 := by
  constructor
  · intro hb
    have h0 := bval_zero_all (bytes_L (V % PP) 32) hb
    have n0 := num_modS V
    have : num (fill (byt (V % PP)) 32) = 0 := by
      unfold num
      rw [fill_len]
      exact lsum_all0 32 (fun j _ => h0 j)
    omega
  · intro h
    rw [h]
    decide +kernel

set_option maxHeartbeats 2000000 in
theorem l2IsZero_any (w : World) (f : Nat → Int) (hf : L16 f) : Calls Tryd.prog 97 #[ag16 f] w fun r w' => r = .returned (.bool (decide (s16 f 16 % PP = 0))) ∧ Below w.heap.size w w' := by
  show Calls Tryd.prog 97 #[.agg (a16 f)] w _
  have n1 : Below w.heap.size w (w.alloc (.cells (a16 f) 51)) := (Below.refl _ _).alloc (Nat.le_refl _) _
  have B1 : Blk (w.alloc (.cells (a16 f) 51)) w.heap.size .i64 (ls16 f) := blk16 w 51 f
  have BY := fun W => l2Bytes_any W f hf
  have Z := zero_bytes (s16 f 16)
  go_enter Tryd.func97, Tryd.ntmps97
  go_upto_region 1 with fail
  generalize w.alloc (.cells (a16 f) 51) = wa at *
  obtain ⟨t, hF⟩ := B1
  go_wp2_with (refine wpList_load_row rfl 51 (.tmp 1) rfl w.heap.size rfl t (a16 f) (0, 0) (.array 16 2) hF Go.Proofs.YtmhfjkhanlciiaaDoor.u50 rfl (by rw [a16_size]; exact i50) ?_)
  refine (BY wa).mono ?_
  rintro r w2 ⟨⟨a2, c2, g2, rfl, o2, p2, q2, r2⟩, n2⟩
  have N2 := nxt n1 n2
  have TM := hide (l1Trim_any w2 g2 a2 c2 _ o2.rd (bytes_L _ _) p2 q2 (by rw [fill_len]; decide))
  clear BY n1 n2 hF o2 p2 q2 r2
  go_wp2_with fail
  refine TM.out.mono ?_
  rintro r w3 ⟨zs, CZ, lz, ⟨a3, c3, g3, rfl, o3, p3, q3, r3⟩, n3⟩
  have N3 := nxt N2 n3
  clear TM N2 n3 o3 p3 q3 r3
  by_cases hz : zs.length = 0
  · have tz : ((zs.length : Int) == 0) = true := by simp [hz]
    have bz : s16 f 16 % PP = 0 := by
      refine Z.1 ?_
      have : zs = [] := List.eq_nil_of_length_eq_zero hz
      rw [← CZ.2.1, this]
      rfl
    have K := hide (decide_eq_true bz)
    clear hz bz CZ Z
    go_wp2
    go_ret
    exact ⟨by rw [K.out]; rfl, N3⟩
  · have tz : ((zs.length : Int) == 0) = false := by simp; intro h; exact hz (by rw [h]; rfl)
    have bz : ¬ s16 f 16 % PP = 0 := fun h => canon_pos' CZ (by omega) (Z.2 h)
    have K := hide (decide_eq_false bz)
    clear hz bz CZ Z
    go_wp2
    go_ret
    exact ⟨by rw [K.out]; rfl, N3⟩
end Go.Proofs.YtmhfjkhanlciiaaDoor

/-
  The model's l5Lift.
-/
namespace Go.Proofs.YtmhfjkhanlciiaaDoor
set_option maxRecDepth 100000
open Go Go.RowKit

theorem wpList_load_want {P : Program} {ops : Array Oper} {rest : List Oper} {op : Oper} {a : Act} {w : World} {Q : Exit → Act → World → Prop} (hw : Region.wanted op (yielded ops a.tmps) = true) (ty : TypeId) (x : Operand) (ho : op.op = .load ty x)
    (b o : Nat) (hx : a.eval x = .pointer (some ⟨b, o, none⟩)) (cs : List Value) (d : TypeDesc) (hc : w.rangeAt b o cs)
    (hu : P.underlying ty = some d) (hd : d.isRow = true) (hi : (P.info? ty).map (·.size) = some cs.length)
    (h : wpList P ops Q rest (a.put op.dst (.agg cs.toArray)) w) : wpList P ops Q (op :: rest) a w :=
  BigFrame.wpList_want hw fun _ hK => wp_load_mid ty x ho b o hx cs d hc hu hd hi (hK _ _ h)
/-- What is lifted: is there a point, and its bytes. -/
def liB (A : Int) (odd : Bool) : Bool := rootB (liftZ A) && !(odd && decide (rootV (liftZ A) % PP = 0))
def liX (A : Int) (odd : Bool) : List Int := if liB A odd = true then fill (byt ((if odd = true then 0 - rootV (liftZ A) else rootV (liftZ A)) % PP)) 32 else []
def liY (A : Int) (odd : Bool) : List Int := if liB A odd = true then fill (byt (A % PP)) 32 else []
def NewLi (B : Nat) (w' : World) (e : Ending) (b : Bool) (xs ys : List Int) : Prop :=
  ∃ (a a' : Option Addr) (c c' g g' : Nat), e = .returned (.tuple #[.bool b, .agg #[.slice a xs.length c, .slice a' ys.length c']]) ∧ Own w' g a .u8 xs ∧ Own w' g' a' .u8 ys ∧ B ≤ g ∧ B ≤ g'
theorem newLi_nil {B : Nat} {w : World} : NewLi B w (.returned (.tuple #[.bool false, .agg #[.slice none 0 0, .slice none 0 0]])) false [] [] := ⟨none, none, 0, 0, B, B, rfl, Own.nil _ _ _ _, Own.nil _ _ _ _, Nat.le_refl _, Nat.le_refl _⟩
section
variable {ops : Array Oper} {Q : Exit → Act → World → Prop} {md : Region.Mode} {F : Nat → Fact} {a0 : Act} {w0 : World} {i : Nat} {o : Oper}
theorem step_konst {P : Program} (hi : ops[i]? = some o) {v : Value} (hop : o.op = .assign (.const v)) (hF : F i = Fact.eq v) : StepOk P md ops Q F a0 w0 i :=
  step_pure hi fun a w _ _ _ => ⟨v, by simp [execOp, hop, Act.eval], by rw [hF]; exact rfl⟩
end

section
variable {ops : Array Oper} {Q : Exit → Act → World → Prop} {a0 : Act} {w : World} {id : Nat} {draw : Bool}
theorem region_putPF (k jV pD pV : Nat) (o : Oper) (F : Nat → Fact) (p : List Int → List Int → Prop) (q : Nat) (hT : textOk .any ops a0.tmps.size k = true) (hk : ops[k]? = some o) (hd : o.dst = none) (hop : o.op = .store 27 (.tmp pD) (.tmp pV))
    (hp : apart ops pD = true) (h0 : a0.tmps.getD pD undef = .pointer (some ⟨q, 0, none⟩)) (ht : w.there q 0 2)
    (wV : writes ops jV pV = true) (FV : F jV = PT w p) (steps : ∀ i, i < k → StepOk Tryd.prog .any ops Q F a0 w i)
    (fin : ∀ (vs : Nat → Value) (W W' : World) (xs ys : List Int) (a a' : Option Addr) (c c' g g' : Nat), Below w.heap.size w W → ButQ q w W' → W'.rangeAt q 0 [.slice a xs.length c, .slice a' ys.length c'] → Own W' g a .u8 xs → Own W' g' a' .u8 ys → w.heap.size ≤ g → w.heap.size ≤ g' → p xs ys → (∀ (w1 : World) (B : Nat), Below B w1 W → B ≤ q → Below B w1 W') → (∀ i d, writes ops i d = true → ∃ Wp, (F i).p (vs d) Wp) → Q .normal (puts vs a0 ops.toList) W') :
    (Code.region id ops draw).wp Tryd.prog Q a0 w := by
  refine region_store k o F (by kernel_rfl) hT hk hd steps fun a W hb hw hF => ?_
  have h2 := hF jV pV wV
  rw [FV] at h2
  obtain ⟨xs, ys, b, b', c, c', g, g', ev, o1, o2, l1, l2, hpp⟩ := h2
  have th := there_up (by omega) ht hw
  refine wp_store_mid 27 (.tmp pD) (.tmp pV) hop q 0 #[.slice b xs.length c, .slice b' ys.length c'] ((based_at hb pD hp).trans h0) ev th iP (by simp [Value.oneCell']) ?_
  obtain ⟨vs, hvs⟩ : ∃ vs : Nat → Value, ∀ d, a.tmps.getD d undef = vs d := ⟨_, fun _ => rfl⟩
  rw [hd]
  show Q .normal a _
  rw [puts_of hT rfl hb vs hvs]
  have lq := there_lt (by omega) ht
  refine fin vs W _ xs ys b b' c c' g g' hw (but_set hw _) (World.rangeAt_setCells_same W q 0 _ th) ?_ ?_ l1 l2 hpp (fun w1 B n hB => below_setCells hB _ _ _ n) (fun i d h => ⟨W, by rw [← hvs]; exact hF i d h⟩)
  · exact fun h0 => o1.of_block (setCells_other (by omega) _ 0 W) h0
  · exact fun h0 => o2.of_block (setCells_other (by omega) _ 0 W) h0
end

set_option maxHeartbeats 2000000 in
theorem l5Lift_any (w : World) (f : Nat → Int) (A : Int) (hf : L16 f ∧ s16 f 16 % PP = A % PP) (odd : Bool) :
    Calls Tryd.prog 57 #[ag16 f, .bool odd] w fun r w' => NewLi w.heap.size w' r (liB A odd) (liX A odd) (liY A odd) ∧ Below w.heap.size w w' := by
  show Calls Tryd.prog 57 #[.agg (a16 f), .bool odd] w _
  have H1 := elt_new5 w 51 hf
  have m1 : Below w.heap.size w (w.alloc (.cells (a16 f) 51)) := (Below.refl _ _).alloc (Nat.le_refl _) _
  have s1 : (w.alloc (.cells (a16 f) 51)).heap.size = w.heap.size + 1 := by simp
  obtain ⟨V1, hV1⟩ : ∃ V, V = a16 f := ⟨_, rfl⟩
  rw [← hV1] at H1 m1 s1 ⊢
  clear hV1 hf
  go_enter Tryd.func57, Tryd.ntmps57
  go_upto_region 1 with fail
  generalize w.alloc (.cells V1 51) = wa at *
  change Code.wp _ _ _ _ (wa.alloc pObj)
  have TR := there_p wa
  have TZ : Two (wa.alloc pObj) wa.heap.size (.slice none 0 0) (.slice none 0 0) := Two.new wa (.slice none 0 0) (.slice none 0 0) 27
  have m2 : Below wa.heap.size wa (wa.alloc pObj) := (Below.refl _ _).alloc (Nat.le_refl _) _
  rw [s1] at TR TZ
  have E2' := H1.up m2
  have N := nxt m1 m2
  clear H1 m1 m2 s1
  generalize wa.alloc pObj = wr at *
  refine region_new16 4 3 2 6 11 _ (fun i => [EL (A), EL (A), EL ((A) * (A)), NB wr 16].getD i Fact.no) ((A) * (A)) (by kernel_rfl) rfl rfl rfl (by kernel_rfl) (by kernel_rfl) rfl rfl ?_ ?_
  · intro i hi
    obtain rfl | rfl | rfl | rfl : i = 0 ∨ i = 1 ∨ i = 2 ∨ i = 3 := by omega
    · exact step_el rfl 51 2 rfl Go.Proofs.YtmhfjkhanlciiaaDoor.u50 i50 (by kernel_rfl) _ _ rfl _ E2' rfl
    · exact step_el rfl 51 2 rfl Go.Proofs.YtmhfjkhanlciiaaDoor.u50 i50 (by kernel_rfl) _ _ rfl _ E2' rfl
    · exact step_mul rfl 9 10 0 1 _ _ rfl (by kernel_rfl) (by kernel_rfl) rfl rfl rfl
    · exact step_new16 rfl rfl rfl
  intro vs1 q6 W1 v6 l6 n E6 T6
  have y6 := there_lt (by omega) T6
  replace E2' := E2'.up n
  replace TR := there_up (by omega) TR n
  replace TZ := TZ.up n
  replace N := nxt N n
  clear n T6
  simp only [puts, v6, Act.put, List.setIfInBounds_toArray, List.set_cons_succ, List.set_cons_zero]
  clear v6
  go_upto_region 2 with fail
  refine region_new16F 16 14 13 8 25 _ (fun i => [EL ((A) * (A)), EL 1, EL (((A) * (A)) - (1)), EL dE, EL ((A) * (A)), EL ((dE) * ((A) * (A))), EL 1, EL (((dE) * ((A) * (A))) + (1)), EL (iv (((dE) * ((A) * (A))) + (1))), EL ((((A) * (A)) - (1)) * (iv (((dE) * ((A) * (A))) + (1)))), RT ((((A) * (A)) - (1)) * (iv (((dE) * ((A) * (A))) + (1)))), RT ((((A) * (A)) - (1)) * (iv (((dE) * ((A) * (A))) + (1)))), Fact.eq (.bool (rootB ((((A) * (A)) - (1)) * (iv (((dE) * ((A) * (A))) + (1)))))), EL (rootV ((((A) * (A)) - (1)) * (iv (((dE) * ((A) * (A))) + (1))))), NB W1 16, Fact.eq (.bool (rootB ((((A) * (A)) - (1)) * (iv (((dE) * ((A) * (A))) + (1))))))].getD i Fact.no) (rootV ((((A) * (A)) - (1)) * (iv (((dE) * ((A) * (A))) + (1))))) (by kernel_rfl) rfl rfl rfl (by kernel_rfl) (by kernel_rfl) rfl rfl ?_ ?_
  · intro i hi
    obtain rfl | rfl | rfl | rfl | rfl | rfl | rfl | rfl | rfl | rfl | rfl | rfl | rfl | rfl | rfl | rfl : i = 0 ∨ i = 1 ∨ i = 2 ∨ i = 3 ∨ i = 4 ∨ i = 5 ∨ i = 6 ∨ i = 7 ∨ i = 8 ∨ i = 9 ∨ i = 10 ∨ i = 11 ∨ i = 12 ∨ i = 13 ∨ i = 14 ∨ i = 15 := by omega
    · exact step_el rfl 51 6 rfl Go.Proofs.YtmhfjkhanlciiaaDoor.u50 i50 (by kernel_rfl) _ _ rfl _ E6 rfl
    · exact step_small rfl 1 (by omega) rfl rfl
    · exact step_sub rfl 13 14 0 1 _ _ rfl (by kernel_rfl) (by kernel_rfl) rfl rfl rfl
    · exact step_d rfl rfl rfl
    · exact step_el rfl 51 6 rfl Go.Proofs.YtmhfjkhanlciiaaDoor.u50 i50 (by kernel_rfl) _ _ rfl _ E6 rfl
    · exact step_mul rfl 16 17 3 4 _ _ rfl (by kernel_rfl) (by kernel_rfl) rfl rfl rfl
    · exact step_small rfl 1 (by omega) rfl rfl
    · exact step_add rfl 18 19 5 6 _ _ rfl (by kernel_rfl) (by kernel_rfl) rfl rfl rfl
    · exact step_inv rfl 20 7 _ rfl (by kernel_rfl) rfl rfl
    · exact step_mul rfl 15 21 2 8 _ _ rfl (by kernel_rfl) (by kernel_rfl) rfl rfl rfl
    · exact step_root rfl 22 9 _ rfl (by kernel_rfl) rfl rfl
    · exact step_move rfl 23 10 (by exact Or.inl rfl) (by kernel_rfl) rfl
    · exact step_ext0 rfl 12 11 _ rfl (by kernel_rfl) rfl rfl
    · exact step_ext1 rfl 12 11 _ rfl (by kernel_rfl) rfl rfl
    · exact step_new16 rfl rfl rfl
    · exact step_move rfl 24 12 (by exact Or.inr rfl) (by kernel_rfl) rfl
  intro vs2 q8 W2 v8 l8 n E8 T8 hF
  have v7' := hF 15 7 (by kernel_rfl)
  have zr := there_lt (by omega) TR
  replace E2' := E2'.up n
  replace TR := there_up (by omega) TR n
  replace TZ := TZ.up n
  replace N := nxt N n
  obtain ⟨_, v7⟩ := v7'
  clear n hF
  obtain ⟨Z, hZ⟩ : ∃ Z, Z = liftZ A := ⟨_, rfl⟩
  change vs2 7 = .bool (rootB (liftZ A)) at v7
  replace E8 : Elt W2 q8 0 (rootV (liftZ A)) := E8
  rw [← hZ] at v7 E8
  have KB : Hid (liB A odd = (rootB Z && !(odd && decide (rootV Z % PP = 0)))) := by show _ = _; rw [hZ]; rfl
  have KX0 : Hid (liX A odd = if liB A odd = true then fill (byt ((if odd = true then 0 - rootV Z else rootV Z) % PP)) 32 else []) := by show _ = _; rw [hZ]; rfl
  have KY0 : Hid (liY A odd = if liB A odd = true then fill (byt (A % PP)) 32 else []) := by show _ = _; rfl
  clear hZ
  obtain ⟨V, hV⟩ : ∃ V, V = rootV Z := ⟨_, rfl⟩
  rw [← hV] at E8 KB KX0
  obtain ⟨rb, hrb⟩ : ∃ b, b = rootB Z := ⟨_, rfl⟩
  rw [← hrb] at v7 KB
  clear hV hrb
  simp only [puts, v8, v7, Act.put, List.setIfInBounds_toArray, List.set_cons_succ, List.set_cons_zero]
  clear v8 v7
  have gq : w.heap.size + 1 < q8 := by omega
  clear l6 y6 l8 E6 zr
  cases rb with
  | false =>
    have KK : Hid (liB A odd = false) := by show _ = _; rw [KB.out]; rfl
    have KX : Hid (liX A odd = []) := by show _ = _; rw [KX0.out, if_neg (by rw [KK.out]; simp)]
    have KY : Hid (liY A odd = []) := by show _ = _; rw [KY0.out, if_neg (by rw [KK.out]; simp)]
    obtain ⟨y0, y1, f0, f1⟩ := TZ
    clear KB KX0 KY0 E2' E8 T8 TR
    go_wp2
    refine bodyPost_ret (v := .tuple #[.bool false, .agg #[.slice none 0 0, .slice none 0 0]]) (by simp [results, Tryd.results57, go_sem, y0, y1]) rfl ⟨by rw [KK.out, KX.out, KY.out]; exact newLi_nil, ?_⟩
    exact (N.setCell (by show w.heap.size ≤ w.heap.size + 1; omega) _).setCell (by show w.heap.size ≤ w.heap.size + 1; omega) _
  | true =>
    cases odd with
    | false =>
      have KK : Hid (liB A false = true) := by show _ = _; rw [KB.out]; rfl
      have KX : Hid (liX A false = fill (byt ((V) % PP)) 32) := by show _ = _; rw [KX0.out, if_pos KK.out]; rfl
      have KY : Hid (liY A false = fill (byt ((A) % PP)) 32) := by show _ = _; rw [KY0.out, if_pos KK.out]
      clear KB KX0 KY0 TZ
      go_upto_region 7 with fail
      refine region_putPF 6 4 5 44 _ (fun i => [EL (V), RN W2 (fun xs => xs = fill (byt ((V) % PP)) 32), EL (A), RN W2 (fun xs => xs = fill (byt ((A) % PP)) 32), PT W2 (fun xs ys => xs = fill (byt ((V) % PP)) 32 ∧ ys = fill (byt ((A) % PP)) 32), Fact.eq (.bool true)].getD i Fact.no) (fun xs ys => xs = fill (byt ((V) % PP)) 32 ∧ ys = fill (byt ((A) % PP)) 32) _ (by kernel_rfl) rfl rfl rfl (by kernel_rfl) rfl TR (by kernel_rfl) rfl ?_ ?_
      · intro i hi
        obtain rfl | rfl | rfl | rfl | rfl | rfl : i = 0 ∨ i = 1 ∨ i = 2 ∨ i = 3 ∨ i = 4 ∨ i = 5 := by omega
        · exact step_el rfl 51 8 rfl Go.Proofs.YtmhfjkhanlciiaaDoor.u50 i50 (by kernel_rfl) _ _ rfl _ E8 rfl
        · exact step_bytes rfl 40 0 _ rfl (by kernel_rfl) rfl rfl
        · exact step_el rfl 51 2 rfl Go.Proofs.YtmhfjkhanlciiaaDoor.u50 i50 (by kernel_rfl) _ _ rfl _ E2' rfl
        · exact step_bytes rfl 42 2 _ rfl (by kernel_rfl) rfl rfl
        · exact step_bp rfl 41 43 1 3 _ _ rfl (by kernel_rfl) (by kernel_rfl) rfl rfl rfl
        · exact step_konst rfl rfl rfl
      rintro vt Wa Wb ps qs b1 b2 d1 d2 h1 h2 n bq rg o1 o2 l1 l2 ⟨rfl, rfl⟩ nb hF
      obtain ⟨_, v4⟩ := hF 5 4 (by kernel_rfl)
      clear hF
      change vt 4 = .bool true at v4
      have NS := nb w w.heap.size (nxt N n) (by omega)
      simp only [puts, v4, Act.put, List.setIfInBounds_toArray, List.set_cons_succ, List.set_cons_zero]
      clear v4
      have z1 := N.size
      clear N n bq nb TR E2' E8
      rw [show fill (byt ((V) % PP)) 32 = liX A false from KX.out.symm] at o1 rg
      rw [show fill (byt ((A) % PP)) 32 = liY A false from KY.out.symm] at o2 rg
      clear KX KY
      go_wp2
      have k0 := rg 0 _ rfl
      have k1 := rg 1 _ rfl
      simp only [Nat.zero_add] at k0 k1
      refine bodyPost_ret (v := .tuple #[.bool true, .agg #[.slice b1 (liX A false).length d1, .slice b2 (liY A false).length d2]]) (by simp [results, Tryd.results57, go_sem, k0, k1]) rfl ⟨?_, NS⟩
      rw [KK.out]
      exact ⟨b1, b2, d1, d2, h1, h2, rfl, o1, o2, by omega, by omega⟩
    | true =>
      obtain ⟨t8, rg8, _, L8, V8⟩ := id E8
      have IZ := hide (fun W => l2IsZero_any W t8 L8)
      simp only [show ∀ f, ag16 f = .agg (a16 f) from fun _ => rfl] at IZ
      have LD := hide rg8
      rw [V8] at IZ
      clear L8 V8 rg8
      by_cases hz : V % PP = 0
      · have KK : Hid (liB A true = false) := by show _ = _; rw [KB.out, decide_eq_true hz]; rfl
        have KX : Hid (liX A true = []) := by show _ = _; rw [KX0.out, if_neg (by rw [KK.out]; simp)]
        have KY : Hid (liY A true = []) := by show _ = _; rw [KY0.out, if_neg (by rw [KK.out]; simp)]
        simp only [decide_eq_true hz] at IZ
        clear KB KX0 KY0 E2' E8 T8 TR hz
        go_wp2_with (refine wpList_load_want rfl 51 (.tmp 8) rfl q8 0 rfl (a16 t8).toList (.array 16 2) LD.out Go.Proofs.YtmhfjkhanlciiaaDoor.u50 rfl (by rw [a16_len]; exact i50) ?_)
        refine (IZ.out W2).mono ?_
        rintro r W3' ⟨rfl, n⟩
        replace N := nxt N n
        obtain ⟨y0, y1, f0, f1⟩ := TZ.up n
        clear IZ LD n TZ
        go_wp2
        refine bodyPost_ret (v := .tuple #[.bool false, .agg #[.slice none 0 0, .slice none 0 0]]) (by simp [results, Tryd.results57, go_sem, y0, y1]) rfl ⟨by rw [KK.out, KX.out, KY.out]; exact newLi_nil, ?_⟩
        exact (N.setCell (by show w.heap.size ≤ w.heap.size + 1; omega) _).setCell (by show w.heap.size ≤ w.heap.size + 1; omega) _
      · have KK : Hid (liB A true = true) := by show _ = _; rw [KB.out, decide_eq_false hz]; rfl
        have KX : Hid (liX A true = fill (byt (((0) - (V)) % PP)) 32) := by show _ = _; rw [KX0.out, if_pos KK.out]; rfl
        have KY : Hid (liY A true = fill (byt ((A) % PP)) 32) := by show _ = _; rw [KY0.out, if_pos KK.out]
        simp only [decide_eq_false hz] at IZ
        clear KB KX0 KY0 TZ hz
        go_wp2_with (refine wpList_load_want rfl 51 (.tmp 8) rfl q8 0 rfl (a16 t8).toList (.array 16 2) LD.out Go.Proofs.YtmhfjkhanlciiaaDoor.u50 rfl (by rw [a16_len]; exact i50) ?_)
        refine (IZ.out W2).mono ?_
        rintro r W5 ⟨rfl, n⟩
        replace E2' := E2'.up n
        replace E8 := E8.up n
        replace TR := there_up (by omega) TR n
        replace T8 := there_up (by omega) T8 n
        replace N := nxt N n
        clear IZ LD n
        go_upto_region 6 with fail
        refine region_put16 3 2 8 39 _ (fun i => [EL 0, EL (V), EL ((0) - (V))].getD i Fact.no) ((0) - (V)) _ (by kernel_rfl) rfl rfl rfl (by kernel_rfl) rfl T8 (by kernel_rfl) rfl ?_ ?_
        · intro i hi
          obtain rfl | rfl | rfl : i = 0 ∨ i = 1 ∨ i = 2 := by omega
          · exact step_small rfl 0 (by omega) rfl rfl
          · exact step_el rfl 51 8 rfl Go.Proofs.YtmhfjkhanlciiaaDoor.u50 i50 (by kernel_rfl) _ _ rfl _ E8 rfl
          · exact step_sub rfl 37 38 0 1 _ _ rfl (by kernel_rfl) (by kernel_rfl) rfl rfl rfl
        intro vs6 Wc W6 n b E8n T8n nb
        replace E2' := E2'.but b (by omega)
        replace TR := there_but (by omega) TR b (by omega)
        replace N := nb w w.heap.size (nxt N n) (by omega)
        clear n b nb T8n T8 E8
        simp only [puts, Act.put, List.setIfInBounds_toArray, List.set_cons_succ, List.set_cons_zero]
        go_upto_region 7 with fail
        refine region_putPF 6 4 5 44 _ (fun i => [EL ((0) - (V)), RN W6 (fun xs => xs = fill (byt (((0) - (V)) % PP)) 32), EL (A), RN W6 (fun xs => xs = fill (byt ((A) % PP)) 32), PT W6 (fun xs ys => xs = fill (byt (((0) - (V)) % PP)) 32 ∧ ys = fill (byt ((A) % PP)) 32), Fact.eq (.bool true)].getD i Fact.no) (fun xs ys => xs = fill (byt (((0) - (V)) % PP)) 32 ∧ ys = fill (byt ((A) % PP)) 32) _ (by kernel_rfl) rfl rfl rfl (by kernel_rfl) rfl TR (by kernel_rfl) rfl ?_ ?_
        · intro i hi
          obtain rfl | rfl | rfl | rfl | rfl | rfl : i = 0 ∨ i = 1 ∨ i = 2 ∨ i = 3 ∨ i = 4 ∨ i = 5 := by omega
          · exact step_el rfl 51 8 rfl Go.Proofs.YtmhfjkhanlciiaaDoor.u50 i50 (by kernel_rfl) _ _ rfl _ E8n rfl
          · exact step_bytes rfl 40 0 _ rfl (by kernel_rfl) rfl rfl
          · exact step_el rfl 51 2 rfl Go.Proofs.YtmhfjkhanlciiaaDoor.u50 i50 (by kernel_rfl) _ _ rfl _ E2' rfl
          · exact step_bytes rfl 42 2 _ rfl (by kernel_rfl) rfl rfl
          · exact step_bp rfl 41 43 1 3 _ _ rfl (by kernel_rfl) (by kernel_rfl) rfl rfl rfl
          · exact step_konst rfl rfl rfl
        rintro vt Wa Wb ps qs b1 b2 d1 d2 h1 h2 n bq rg o1 o2 l1 l2 ⟨rfl, rfl⟩ nb hF
        obtain ⟨_, v4⟩ := hF 5 4 (by kernel_rfl)
        clear hF
        change vt 4 = .bool true at v4
        have NS := nb w w.heap.size (nxt N n) (by omega)
        simp only [puts, v4, Act.put, List.setIfInBounds_toArray, List.set_cons_succ, List.set_cons_zero]
        clear v4
        have z1 := N.size
        clear N n bq nb TR E2' E8n
        rw [show fill (byt (((0) - (V)) % PP)) 32 = liX A true from KX.out.symm] at o1 rg
        rw [show fill (byt ((A) % PP)) 32 = liY A true from KY.out.symm] at o2 rg
        clear KX KY
        go_wp2
        have k0 := rg 0 _ rfl
        have k1 := rg 1 _ rfl
        simp only [Nat.zero_add] at k0 k1
        refine bodyPost_ret (v := .tuple #[.bool true, .agg #[.slice b1 (liX A true).length d1, .slice b2 (liY A true).length d2]]) (by simp [results, Tryd.results57, go_sem, k0, k1]) rfl ⟨?_, NS⟩
        rw [KK.out]
        exact ⟨b1, b2, d1, d2, h1, h2, rfl, o1, o2, by omega, by omega⟩
end Go.Proofs.YtmhfjkhanlciiaaDoor

/-
  The model's PointBase.
-/
namespace Go.Proofs.YtmhfjkhanlciiaaDoor
set_option maxRecDepth 100000
open Go Go.RowKit

set_option maxHeartbeats 2000000 in
theorem specBase_any (w : World) : Calls Tryd.prog 18 #[] w fun r w' => NewPt w.heap.size w' r (liX (4 * iv 5) false) (liY (4 * iv 5) false) ∧ Below w.heap.size w w' := by
  have TZ : Two (w.alloc pObj) w.heap.size (.slice none 0 0) (.slice none 0 0) := Two.new w (.slice none 0 0) (.slice none 0 0) 27
  have N : Below w.heap.size w (w.alloc pObj) := (Below.refl _ _).alloc (Nat.le_refl _) _
  go_enter Tryd.func18, Tryd.ntmps18
  go_upto_region 1 with fail
  change Code.wp _ _ _ _ (w.alloc pObj)
  generalize w.alloc pObj = wr at *
  go_wp2_with fail
  refine (l2SmallB_any wr 4 (by omega)).mono ?_
  rintro r w1 ⟨t4, rfl, L4, V4, n⟩
  replace TZ := TZ.up n
  replace N := nxt N n
  clear n
  go_wp2_with fail
  refine (l2SmallB_any w1 5 (by omega)).mono ?_
  rintro r w2 ⟨t5, rfl, L5, V5, n⟩
  replace TZ := TZ.up n
  replace N := nxt N n
  clear n
  go_wp2_with fail
  refine (l2Inv_any w2 t5 L5).mono ?_
  rintro r w3 ⟨t6, rfl, L6, V6, n⟩
  replace TZ := TZ.up n
  replace N := nxt N n
  clear n
  go_wp2_with fail
  refine (l2Mul_any w3 t4 t6 L4 L6).mono ?_
  rintro r w4 ⟨t7, rfl, L7, V7, n⟩
  replace TZ := TZ.up n
  replace N := nxt N n
  clear n
  have V : s16 t7 16 % PP = 4 * iv 5 % PP := by
    rw [V7]
    exact mod_mul V4 (V6.trans (pow_mod V5 _))
  have z4 := TZ.lt
  have LF := hide (l5Lift_any w4 t7 (4 * iv 5) ⟨L7, V⟩ false)
  clear V4 V5 V6 V7 V L4 L5 L6 L7
  obtain ⟨X, hX⟩ : ∃ X, X = liX (4 * iv 5) false := ⟨_, rfl⟩
  obtain ⟨Y, hY⟩ : ∃ Y, Y = liY (4 * iv 5) false := ⟨_, rfl⟩
  rw [← hX, ← hY] at LF
  have KX := hide hX
  have KY := hide hY
  clear hX hY
  generalize liB (4 * iv 5) false = bb at *
  go_wp2_with fail
  refine LF.out.mono ?_
  rintro r w5 ⟨⟨a1, a2, c1, c2, g1, g2, rfl, o1, o2, l1, l2⟩, n⟩
  replace TZ := TZ.up n
  have z := N.size
  have zz := TZ.lt
  replace N := nxt N n
  clear n LF
  have TN := Two.new w5 (.slice a1 X.length c1) (.slice a2 Y.length c2) 27
  have m : Below w5.heap.size w5 (w5.alloc (.cells #[.slice a1 X.length c1, .slice a2 Y.length c2] 27)) := (Below.refl _ _).alloc (Nat.le_refl _) _
  go_upto_region 2 with fail
  generalize w5.alloc (.cells #[.slice a1 X.length c1, .slice a2 Y.length c2] 27) = w6 at *
  obtain ⟨p0, p1, _, _⟩ := TN
  obtain ⟨y0, y1, f0, f1⟩ := TZ.up m
  replace N := nxt N m
  replace o1 := o1.up m
  replace o2 := o2.up m
  have O := (Only.setCell w6 w.heap.size 0 (.slice a1 X.length c1)).trans (Only.setCell _ w.heap.size 1 (.slice a2 Y.length c2))
  have o1' := o1.only O (fun _ => by omega)
  have o2' := o2.only O (fun _ => by omega)
  have N' := N.trans (O.below (Nat.le_refl _))
  clear TZ m o1 o2 O N
  go_wp2
  refine bodyPost_ret (v := .agg #[.slice a1 X.length c1, .slice a2 Y.length c2]) (by simp [results, Tryd.results18, go_sem, y0, y1]) rfl ⟨?_, N'⟩
  rw [← KX.out, ← KY.out]
  exact ⟨a1, a2, c1, c2, g1, g2, rfl, o1', o2', by omega, by omega⟩
end Go.Proofs.YtmhfjkhanlciiaaDoor

/-
  The law of PointBase.
-/
namespace Go.Proofs.YtmhfjkhanlciiaaDoor
set_option maxRecDepth 100000
open Go Go.RowKit

/-- The limbs of the base's coordinates. -/
def bxL : Nat → Int
  | 0 => 1738742601995546
  | 1 => 1146398526822698
  | 2 => 2070867633025821
  | 3 => 562264141797630
  | 4 => 587772402128613
  | _ => 0
def byL : Nat → Int
  | 0 => 1801439850948184
  | 1 => 1351079888211148
  | 2 => 450359962737049
  | 3 => 900719925474099
  | 4 => 1801439850948198
  | _ => 0
theorem bxL_is : Is5 bxL bX := ⟨by unfold Lm; decide, by decide +kernel⟩
theorem byL_is : Is5 byL bY := ⟨by unfold Lm; decide, by decide +kernel⟩
theorem bp_of_reads {W : World} (h : Lib.VarReads Tryd.prog W "loop.example/g00004/impl.basePoint" Rows.laid_loop_example_g00004_impl_basePoint) : RowN W 0 0 [bX, bY] := row_of_reads bxL byL bX bY gBp tBp h bxL_is byL_is
theorem ba_ok : liB (4 * iv 5) false = true := by
  unfold liB
  rw [base_lift.1]
  simp
theorem ba_eq1 : fill (byt (bX % PP)) 32 = liX (4 * iv 5) false := by
  unfold liX
  rw [if_pos ba_ok, base_lift.2]
  simp
theorem ba_eq2 : fill (byt (bY % PP)) 32 = liY (4 * iv 5) false := by
  unfold liY
  rw [if_pos ba_ok, base_mod, ← base_mod, Int.emod_emod_of_dvd _ (Int.dvd_refl _)]
theorem ba_len1 : (liX (4 * iv 5) false).length = 32 := by rw [← ba_eq1, fill_len]
theorem ba_len2 : (liY (4 * iv 5) false).length = 32 := by rw [← ba_eq2, fill_len]
abbrev HasBp (w : World) : Prop := RowN w 0 0 [bX, bY]
theorem laid_pbase {W : World} (h : laidMetH Tryd.prog Rows.fnExactPointBaseRow.laid W) : HasBp W := bp_of_reads (reads_of h (by kernel_rfl) (.head _))
set_option maxHeartbeats 8000000 in
theorem pbase_law (w : World) (hL : HasBp w) :
    Calls Tryd.prog 4 #[] w fun e w' => e = .returned (.bool true) ∧ Below w.heap.size w w' := by
  have SP := fun W => specBase_any W
  have IM := fun W (n : Below w.heap.size w W) => implBase_any W bX bY (hL.up n)
  simp only [ba_eq1, ba_eq2] at IM
  have lrx : (liX (4 * iv 5) false).length ≤ 1048576 := by rw [ba_len1]; omega
  have prx : 0 < (liX (4 * iv 5) false).length := by first | (rw [ba_len1]; omega) | (rw [ba_len2]; omega)
  obtain ⟨rx, hrx⟩ : ∃ l, l = liX (4 * iv 5) false := ⟨_, rfl⟩
  simp only [← hrx] at SP IM lrx prx
  clear hrx
  have lry : (liY (4 * iv 5) false).length ≤ 1048576 := by rw [ba_len2]; omega
  have pry : 0 < (liY (4 * iv 5) false).length := by first | (rw [ba_len1]; omega) | (rw [ba_len2]; omega)
  obtain ⟨ry, hry⟩ : ∃ l, l = liY (4 * iv 5) false := ⟨_, rfl⟩
  simp only [← hry] at SP IM lry pry
  clear hry
  clear hL
  go_enter Tryd.func4, Tryd.ntmps4
  have N : Below w.heap.size w w := Below.refl _ _
  go_wp2_with fail
  refine (SP w ).mono ?_
  rintro e w1 ⟨⟨sa, sa', sc, sc', sg, sg', rfl, so, so', sl, sl'⟩, n1⟩
  replace N := nxt N n1
  have zn1 := n1.size
  clear n1
  have o4 : PrP w1 sg sa rx sg' sa' ry := ⟨so, so'⟩
  clear so so'
  have Y4 := hide o4.l.rd.lt
  have Y4' := hide o4.r.rd.lt
  have T4 := Two.new w1 (.slice sa rx.length sc) (.slice sa' ry.length sc') 27
  have n2 : Below w1.heap.size w1 (w1.alloc (.cells #[.slice sa rx.length sc, .slice sa' ry.length sc'] 27)) := (Below.refl _ _).alloc (Nat.le_refl _) _
  replace o4 := o4.up n2
  replace N := nxt N n2
  clear n2
  go_wp2_with fail
  generalize w1.alloc (.cells #[.slice sa rx.length sc, .slice sa' ry.length sc'] 27) = w2 at *
  have uT4 := T4.lt
  refine (IM w2  N).mono ?_
  rintro e w3 ⟨NR, n3⟩
  have zn3 := n3.size
  obtain ⟨i6a, i6c, i6g, i6a', i6c', i6g', rfl, i6o, i6o', i6l, i6l', i6r⟩ := NR
  have o6 : PrP w3 i6g i6a rx i6g' i6a' ry := ⟨i6o, i6o'⟩
  clear i6o i6o'
  have i6h := o6.l.rd.lt prx
  have i6h' := o6.r.rd.lt pry
  replace o4 := o4.up n3
  replace T4 := T4.up n3
  replace N := nxt N n3
  clear n3
  have T6 := Two.new w3 (.slice i6a rx.length i6c) (.slice i6a' ry.length i6c') 27
  have n4 : Below w3.heap.size w3 (w3.alloc (.cells #[.slice i6a rx.length i6c, .slice i6a' ry.length i6c'] 27)) := (Below.refl _ _).alloc (Nat.le_refl _) _
  replace o4 := o4.up n4
  replace T4 := T4.up n4
  replace o6 := o6.up n4
  replace N := nxt N n4
  clear n4
  have T60 := T6.c0
  have T61 := T6.c1
  have T40 := T4.c0
  have T41 := T4.c1
  go_wp2_with fail
  generalize w3.alloc (.cells #[.slice i6a rx.length i6c, .slice i6a' ry.length i6c'] 27) = w4 at *
  have uT6 := T6.lt
  refine (eqPoint_same w4 _ _ _ _ _ _ _ _ _ _ _ _ rx ry o6 o4 lrx lry).mono ?_
  rintro e w5 ⟨rfl, n5⟩
  clear T60 T61 T40 T41
  replace o4 := o4.up n5
  replace T4 := T4.up n5
  replace o6 := o6.up n5
  replace T6 := T6.up n5
  replace N := nxt N n5
  have zn5 := n5.size
  clear n5
  have LG := o6.l.rd.lt prx
  have T60 := T6.c0
  have T61 := T6.c1
  go_wp2_with fail
  refine (markPoint_any w5 i6g i6g' _ _ _ _ rx ry 1 o6 lrx lry (by omega) (by omega) (fun h => i6r h pry) (fun h => i6r prx h) (by omega)).mono ?_
  rintro e w6 ⟨rfl, oH, OH⟩
  have zzH := OH.size
  clear T60 T61
  clear o6
  have NN := N.size
  replace N := N.trans (OH.below (B := w.heap.size) (by omega) (by omega) (by omega))
  clear NN
  replace o4 := o4.butP OH (fun h => ⟨by have := Y4.out h; omega, by have := Y4.out h; omega⟩) (fun h => ⟨by have := Y4'.out h; omega, by have := Y4'.out h; omega⟩)
  replace T4 := T4.butP OH (by omega) (by omega)
  replace T6 := T6.butP OH (by omega) (by omega)
  clear OH
  have t4 : decide ((1 : Int) + (rx.length : Int) + (ry.length : Int) < 0) = false := by simp; omega
  have T60 := T6.c0
  have T61 := T6.c1
  go_wp2_with fail
  refine (heldPoint_any w6 i6g i6g' _ _ _ _ rx.length ry.length 1 oH lrx lry (by omega) (by omega)).mono ?_
  rintro e w7 ⟨rfl, n7⟩
  clear T60 T61
  replace o4 := o4.up n7
  replace T4 := T4.up n7
  replace T6 := T6.up n7
  replace oH := oH.up n7
  replace N := nxt N n7
  have zn7 := n7.size
  clear n7
  go_wp2_with fail
  refine (IM w7  N).mono ?_
  rintro e w8 ⟨NR, n8⟩
  have zn8 := n8.size
  obtain ⟨i9a, i9c, i9g, i9a', i9c', i9g', rfl, i9o, i9o', i9l, i9l', i9r⟩ := NR
  have o9 : PrP w8 i9g i9a rx i9g' i9a' ry := ⟨i9o, i9o'⟩
  clear i9o i9o'
  replace o4 := o4.up n8
  replace T4 := T4.up n8
  replace T6 := T6.up n8
  replace oH := oH.up n8
  replace N := nxt N n8
  clear n8
  have T9 := Two.new w8 (.slice i9a rx.length i9c) (.slice i9a' ry.length i9c') 27
  have n9 : Below w8.heap.size w8 (w8.alloc (.cells #[.slice i9a rx.length i9c, .slice i9a' ry.length i9c'] 27)) := (Below.refl _ _).alloc (Nat.le_refl _) _
  replace o4 := o4.up n9
  replace T4 := T4.up n9
  replace T6 := T6.up n9
  replace oH := oH.up n9
  replace o9 := o9.up n9
  replace N := nxt N n9
  clear n9
  have T90 := T9.c0
  have T91 := T9.c1
  have T40 := T4.c0
  have T41 := T4.c1
  go_wp2_with fail
  generalize w8.alloc (.cells #[.slice i9a rx.length i9c, .slice i9a' ry.length i9c'] 27) = w9 at *
  have uT9 := T9.lt
  refine (eqPoint_same w9 _ _ _ _ _ _ _ _ _ _ _ _ rx ry o9 o4 lrx lry).mono ?_
  rintro e w10 ⟨rfl, n10⟩
  clear T90 T91 T40 T41
  replace o4 := o4.up n10
  replace T4 := T4.up n10
  replace T6 := T6.up n10
  replace oH := oH.up n10
  replace o9 := o9.up n10
  replace T9 := T9.up n10
  replace N := nxt N n10
  have zn10 := n10.size
  clear n10
  clear o9 o4 T9 T4
  have T60 := T6.c0
  have T61 := T6.c1
  go_wp2_with fail
  refine (heldPoint_any w10 i6g i6g' _ _ _ _ rx.length ry.length 1 oH lrx lry (by omega) (by omega)).mono ?_
  rintro e w11 ⟨rfl, n11⟩
  clear T60 T61
  replace T6 := T6.up n11
  replace oH := oH.up n11
  replace N := nxt N n11
  have zn11 := n11.size
  clear n11
  go_wp2
  go_ret
  exact ⟨rfl, N⟩
end Go.Proofs.YtmhfjkhanlciiaaDoor
