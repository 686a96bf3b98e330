import Derived.Test.YthapcapiiknjdaaDoorGB37
import Derived.Test.YthapcapiiknjdaaDoorGB36
import Derived.Test.YthapcapiiknjdaaDoorGB27
import Derived.Test.YthapcapiiknjdaaDoorGB28
import Derived.Deep.RegionHeld3
import Derived.Test.YthapcapiiknjdaaDoorGB33
import Derived.Test.YthapcapiiknjdaaDoorGB19
import Derived.Test.YthapcapiiknjdaaDoorGB20

/-
  What is encoded is decoded to the same point, and what is decoded is encoded to the same bytes. Numbers alone.
-/
namespace Go.Proofs.YthapcapiiknjdaaDoor
set_option maxRecDepth 100000
open Go Go.RowKit

/-- A point's bytes. -/
def en (p : Int × Int) : List Int := (ly p).set 31 ((ly p).getD 31 0 + 128 * (p.1 % 2))
theorem lx_low (p : Int × Int) : (lx p).getD 0 0 % 2 = p.1 % 2 := by
  unfold lx
  rw [fill_get _ _ _ (by omega)]
  unfold byt
  simp only [Int.pow_zero, Int.ediv_one]
  omega
theorem ly_top {p : Int × Int} (h : Pv p) : 0 ≤ (ly p).getD 31 0 ∧ (ly p).getD 31 0 < 128 := by
  unfold ly
  rw [fill_get _ _ _ (by omega)]
  unfold byt
  have h0 := h.cn.y.1
  have h1 : p.2 < 57896044618658097711785492504343953926634992332820282019728792003956564819968 := Int.lt_trans h.cn.y.2 (by decide)
  have e : (256 : Int) ^ 31 = 452312848583266388373324160190187140051835877600158453279131187530910662656 := by decide
  rw [e]
  generalize p.2 = y at *
  omega
theorem es_en {p : Int × Int} (h : Pv p) : esA (lx p) (ly p) = en p := by
  unfold esA en
  rw [if_pos (lv_valid h), lx_low]
theorem en_len (p : Int × Int) : (en p).length = 32 := by
  unfold en
  rw [List.length_set, ly_len]
theorem en_31 (p : Int × Int) : (en p).getD 31 0 = (ly p).getD 31 0 + 128 * (p.1 % 2) := by
  unfold en
  generalize (ly p).getD 31 0 + 128 * (p.1 % 2) = v
  rw [List.getD_eq_getElem?_getD, List.getElem?_set_self (by rw [ly_len]; omega)]
  rfl
theorem set_getD {xs : List Int} {k : Nat} (h : k < xs.length) : xs.set k (xs.getD k 0) = xs := by
  rw [List.getD_eq_getElem?_getD, List.getElem?_eq_getElem h]
  exact List.set_getElem_self h
theorem en_low {p : Int × Int} (h : Pv p) : low7s (en p) = ly p := by
  have t := ly_top h
  unfold low7s
  rw [en_31]
  have e : ((ly p).getD 31 0 + 128 * (p.1 % 2)) % 128 = (ly p).getD 31 0 := by omega
  rw [e]
  unfold en
  rw [List.set_set]
  exact set_getD (by rw [ly_len]; omega)
theorem en_odd {p : Int × Int} (h : Pv p) : decide (128 ≤ (en p).getD 31 0) = decide (p.1 % 2 = 1) := by
  have t := ly_top h
  rw [en_31]
  by_cases c : p.1 % 2 = 1
  · rw [decide_eq_true c]
    exact decide_eq_true (by omega)
  · rw [decide_eq_false c]
    exact decide_eq_false (by omega)
theorem en_byt {p : Int × Int} (h : Pv p) : Byt (en p) := fun j => by
  by_cases c : j = 31
  · subst c
    have t := ly_top h
    rw [en_31]
    omega
  · unfold en
    rw [List.getD_eq_getElem?_getD, List.getElem?_set_ne (by omega), ← List.getD_eq_getElem?_getD]
    exact ly_byt p j
theorem dec_en {p : Int × Int} (h : Pv p) : dcB (en p) = true ∧ dcX (en p) = lx p ∧ dcY (en p) = ly p := by
  have x0 := h.cn.x.1
  have x1 := h.cn.x.2
  have y0 := h.cn.y.1
  have y1 := h.cn.y.2
  have r := lift_back (y := p.2) x0 x1 h.on
  have L : liB p.2 (decide (p.1 % 2 = 1)) = true := by
    unfold liB
    rw [r.1, r.2]
    by_cases c : p.1 % 2 = 1
    · rw [decide_eq_true c, if_neg (by omega), Int.emod_eq_of_lt (by omega) (by omega)]
      have : ¬ (PP - p.1 = 0) := by omega
      rw [decide_eq_false this]
      rfl
    · rw [decide_eq_false c]
      rfl
  have B : dcB (en p) = true := by
    unfold dcB
    rw [en_low h, en_odd h, en_len, ly_num h, show canN (ly p) = true from can_fill y0 y1, L]
    rfl
  refine ⟨B, ?_, ?_⟩
  · unfold dcX
    rw [if_pos B, en_low h, en_odd h, ly_num h]
    unfold liX
    rw [if_pos L, r.2]
    by_cases c : p.1 % 2 = 1
    · rw [if_pos (decide_eq_true c), if_neg (by omega), show 0 - (PP - p.1) = p.1 + PP * (-1) by generalize PP = P; omega, Int.add_mul_emod_self_left, Int.emod_eq_of_lt x0 x1]
      rfl
    · rw [if_neg (by simpa using c), if_pos (by omega), Int.emod_eq_of_lt x0 x1]
      rfl
  · unfold dcY
    rw [if_pos B, en_low h, en_odd h, ly_num h]
    unfold liY
    rw [if_pos L, Int.emod_eq_of_lt y0 y1]
    rfl
theorem en_dec {b : List Int} (hb : Byt b) (h : dcB b = true) : ∃ p, Pv p ∧ dcX b = lx p ∧ dcY b = ly p ∧ en p = b := by
  have h' := h
  unfold dcB at h'
  simp only [Bool.and_eq_true] at h'
  obtain ⟨hl, hc, hli⟩ := h'
  have hl : b.length = 32 := of_decide_eq_true hl
  have b31 := hb 31
  have lb : Byt (low7s b) := low7_byt hb
  have y0 := num_ge lb
  have y1 := can_lt hc
  have fc := fill_can lb hc
  rw [Int.emod_eq_of_lt y0 y1] at fc
  have l31 : (low7s b).getD 31 0 = b.getD 31 0 % 128 := by
    unfold low7s
    generalize b.getD 31 0 % 128 = v
    rw [List.getD_eq_getElem?_getD, List.getElem?_set_self (by rw [hl]; omega)]
    rfl
  have X : dcX b = liX (num (low7s b)) (decide (128 ≤ b.getD 31 0)) := by unfold dcX; rw [if_pos h]
  have Y : dcY b = liY (num (low7s b)) (decide (128 ≤ b.getD 31 0)) := by unfold dcY; rw [if_pos h]
  have sb : ∀ v, v = b.getD 31 0 → (low7s b).set 31 v = b := fun v e => by
    subst e
    unfold low7s
    rw [List.set_set]
    exact set_getD (by rw [hl]; omega)
  generalize low7s b = l at *
  have ly_is : ∀ x, ly (x, num l) = l := fun x => fc
  generalize num l = y at *
  unfold liX at X
  unfold liY at Y
  rw [if_pos hli] at X Y
  rw [Int.emod_eq_of_lt y0 y1] at Y
  unfold liB at hli
  simp only [Bool.and_eq_true] at hli
  obtain ⟨hr, hz⟩ := hli
  have on := lift_on hr
  have bd := rootV_bd (liftZ y)
  have ng := on_neg on
  generalize rootV (liftZ y) = r at *
  obtain ⟨r0, r1, r2⟩ := bd
  by_cases c : 128 ≤ b.getD 31 0
  · rw [decide_eq_true c] at hz X
    rw [if_pos rfl] at X
    have rz : r ≠ 0 := fun e => by
      subst e
      simp at hz
    have e : (0 - r) % PP = PP - r := by
      rw [show 0 - r = (PP - r) + PP * (-1) by generalize PP = P; omega, Int.add_mul_emod_self_left]
      exact Int.emod_eq_of_lt (by generalize PP = P at *; omega) (by generalize PP = P at *; omega)
    rw [e] at X ng
    have od : (PP - r) % 2 = 1 := by
      have : PP % 2 = 1 := by decide
      generalize PP = P at *
      omega
    refine ⟨(PP - r, y), ⟨ng, ⟨by show 0 ≤ PP - r; generalize PP = P at *; omega, by show PP - r < PP; generalize PP = P at *; omega⟩, ⟨y0, y1⟩⟩, X, Y, ?_⟩
    unfold en
    rw [ly_is]
    refine sb _ ?_
    show l.getD 31 0 + 128 * ((PP - r) % 2) = _
    rw [l31, od]
    omega
  · rw [decide_eq_false c] at X
    rw [if_neg (by decide), Int.emod_eq_of_lt r0 r1] at X
    refine ⟨(r, y), ⟨on, ⟨r0, r1⟩, ⟨y0, y1⟩⟩, X, Y, ?_⟩
    unfold en
    rw [ly_is]
    refine sb _ ?_
    show l.getD 31 0 + 128 * (r % 2) = _
    rw [l31, r2]
    omega
end Go.Proofs.YthapcapiiknjdaaDoor

/-
  DrawPointDecode: some bytes.
-/
namespace Go.Proofs.YthapcapiiknjdaaDoor
set_option maxRecDepth 100000
open Go Go.RowKit

theorem or128D : ∀ n : Fin 256, 0 ≤ bits BinOp.or IntKind.u8 (n.val : Int) 128 ∧ bits BinOp.or IntKind.u8 (n.val : Int) 128 < 256 := by decide +kernel
theorem or_bdD {y : Int} (h : 0 ≤ y ∧ y < 256) : 0 ≤ bits BinOp.or IntKind.u8 y 128 ∧ bits BinOp.or IntKind.u8 y 128 < 256 := by
  have := or128D ⟨y.toNat, by omega⟩
  simp only [Int.toNat_of_nonneg h.1] at this
  exact this
theorem byt_setD {ys : List Int} (h : Byt ys) (i : Nat) {v : Int} (hv : 0 ≤ v ∧ v < 256) : Byt (ys.set i v) := fun j => by
  rw [List.getD_eq_getElem?_getD, List.getElem?_set]
  split
  · split
    · exact hv
    · simp
  · rw [← List.getD_eq_getElem?_getD]; exact h j
theorem es_ok {xs ys : List Int} (hx : Byt xs) (hy : Byt ys) : Byt (esA xs ys) ∧ (esA xs ys).length ≤ 64 ∧ (validP xs ys = true → ys.getD 31 0 < 128) := by
  by_cases h : validP xs ys = true
  · obtain ⟨p, ex, ey⟩ := pv_of hx hy h
    generalize (num xs, num ys) = q at *
    subst ex ey
    rw [es_en p]
    exact ⟨en_byt p, by rw [en_len]; omega, fun _ => (ly_top p).2⟩
  · unfold esA
    rw [if_neg h]
    exact ⟨fun j => by simp, by simp, fun k => absurd k h⟩
/-- 32 bytes that the drawing made. -/
def Dr32 (w : World) (s : Nat) (a : Option Addr) (n c : Nat) (m : Int) (v : Value) (wc : World) : Prop :=
  ∃ (ys : List Int) (h : Nat), v = .slice (some ⟨h, 0, none⟩) 32 32 ∧ Byt ys ∧ Hid (ys.length = 32) ∧ Blk wc h .u8 ys ∧ w.heap.size ≤ h ∧ But s w wc ∧ SrcTo wc s a n c m
theorem Dr32.only {w W W' : World} {s : Nat} {a : Option Addr} {n c : Nat} {m m' : Int} {v : Value} (h : Dr32 w s a n c m v W) (o : Only s W W') (S : SrcTo W' s a n c m') (hs : s < w.heap.size := by omega) : Dr32 w s a n c m' v W' := by
  obtain ⟨ys, g, rfl, yb, yl, oy, z, N, _⟩ := h
  exact ⟨ys, g, rfl, yb, yl, oy.of_block (o.block g (by omega)), z, N.only o, S⟩
theorem Dr32.le {w W : World} {s : Nat} {a : Option Addr} {n c : Nat} {m m' : Int} {v : Value} (h : Dr32 w s a n c m v W) (hm : m ≤ m') : Dr32 w s a n c m' v W := by
  obtain ⟨ys, g, e, yb, yl, oy, z, N, t, t0, t1, S⟩ := h
  exact ⟨ys, g, e, yb, yl, oy, z, N, t, t0, by omega, S⟩
theorem dr32_little {w W W' : World} {s : Nat} {a : Option Addr} {n c : Nat} {m : Int} {xs : List Int} (hb : Byt xs) (B : Blk W' W.heap.size .u8 (fill (dig xs) 32)) (z : w.heap.size ≤ W.heap.size) (N : But s w W') (S : SrcTo W' s a n c m) :
    Dr32 w s a n c m (.slice (some ⟨W.heap.size, 0, none⟩) 32 32) W' :=
  ⟨fill (dig xs) 32, W.heap.size, rfl, dig_bytes hb 32, hide (fill_len _ _), B, z, N, S⟩
set_option maxHeartbeats 4000000 in
theorem drawDec_any (w : World) (g : Nat) (a : Option Addr) (c : Nat) (xs : List Int) (hr : Rd w g a .u8 xs) (hb : Byt xs) (hl : xs.length ≤ 1048576) :
    Calls Tryd.prog 47 #[.slice a xs.length c] w fun e w' => ∃ ys, Byt ys ∧ ys.length ≤ 64 ∧ NewRow w.heap.size w' e .u8 ys ∧ Below w.heap.size w w' := by
  have hne : 0 < xs.length → g ≠ w.heap.size := fun h => by have := hr.lt h; omega
  have DW := hide (fun W (s : Nat) (hs : Src W s a xs.length c (0 + 1)) (h : Rd W g a .u8 xs) (hn : 0 < xs.length → g ≠ s) => l5DrawV_any W s g a c xs (0 + 1) hs h hn hb (by omega) (by decide) (by decide))
  have XB := hide (drP_byt xs (0 + 1))
  generalize drP xs (0 + 1) = X at *
  have EK := es_ok XB.out.1 XB.out.2
  have SE := hide (fun W g g' a a' c c' h h' => specEncode_any W g g' a a' c c' X.1 X.2 h h' XB.out.1 XB.out.2 EK.2.2)
  obtain ⟨R, hR⟩ : ∃ R, R = esA X.1 X.2 := ⟨_, rfl⟩
  simp only [← hR] at SE EK
  have EH := hide EK
  clear EK XB hR
  go_enter Tryd.func47, Tryd.ntmps47
  go_wp2_with fail
  refine (l1Source_any w a xs.length c hl).mono ?_
  rintro e w0 ⟨rfl, S0, n0⟩
  have sl := S0.lt
  have hr0 := hr.up n0
  have fin : ∀ W, But w.heap.size w0 W → Below w.heap.size w W := fun W N => n0.trans (N.below (Nat.le_refl _) (by omega))
  go_wp2_with fail
  refine (l1Next_any w0 w.heap.size g a c xs 0 5 S0 hr0 hne hb hl (by omega) (by omega) (by decide) (by decide)).mono ?_
  rintro e w1 ⟨r, rfl, ⟨r0, r1⟩, S1, O1⟩
  have N1 : But w.heap.size w0 w1 := But.ofOnly O1
  have z1 := hide O1.size
  clear S0 O1
  by_cases h2 : r < 2
  · have q : decide (r < 2) = true := decide_eq_true h2
    go_wp2_with fail
    refine (DW.out w1 w.heap.size S1 (hr0.but N1 hne) hne).mono ?_
    rintro e w2 ⟨⟨a1, a1', c1, c1', g1, g1', rfl, o1, o1', l1, l1'⟩, N2⟩
    have N3 := N1.trans N2
    go_wp2_with fail
    refine (SE.out w2 g1 g1' a1 a1' c1 c1' o1.rd o1'.rd).mono ?_
    rintro e w3 ⟨⟨a3, c3, g3, rfl, o3, p3, q3, r3⟩, n3⟩
    have K := fin _ (N3.up n3)
    have zz := hide (show w.heap.size ≤ g3 by have := N3.size; omega)
    clear o1 o1' N3 N2 n3 S1 l1 l1' r3
    go_wp2
    go_ret
    exact ⟨R, EH.out.1, EH.out.2.1, ⟨a3, c3, g3, rfl, o3, p3, q3, zz.out⟩, K⟩
  · have q : decide (r < 2) = false := decide_eq_false h2
    clear DW SE EH
    by_cases h3 : r = 2
    · subst h3
      clear r0 r1 h2 q
      go_wp2_with fail
      refine (l1Next_any w1 w.heap.size g a c xs (0 + 1) 30 S1 (hr0.but N1 hne) hne hb hl (by omega) (by omega) (by decide) (by decide)).mono ?_
      rintro e w2 ⟨v, rfl, ⟨v0, v1⟩, S2, O2⟩
      have N2 := N1.only O2
      go_wp2_with fail
      refine (l1Int_any w2 v v0 (by omega)).mono ?_
      rintro e w3 ⟨us, ul, ub, ⟨a3, c3, g3, rfl, o3, p3, q3, r3⟩, n3⟩
      have N3 := N2.up n3
      have S3 := S2.up n3
      go_wp2_with fail
      refine (l1Little_any w3 g3 a3 c3 us 32 o3.rd ub (by omega) (by omega)).mono ?_
      rintro e w4 ⟨rfl, B4, n4⟩
      have N4 := N3.up n4
      have S4 := S3.up n4
      have D4 : Dr32 w0 w.heap.size a xs.length c 10 (.slice (some ⟨w3.heap.size, 0, none⟩) 32 32) w4 := dr32_little ub B4 (by have := N3.size; omega) N4 ⟨_, by omega, by omega, S4⟩
      clear B4 n4 S3 N3 o3 p3 q3 r3 n3 S2 N2 O2 v0 v1 S1 N1 z1
      go_wp2_with fail
      refine (l1Chance_any w4 w.heap.size g a c xs (0 + 1 + 1) 2 S4 (hr0.but N4 hne) hne hb hl (by omega) (by omega) (by decide) (by decide)).mono ?_
      rintro e w5 ⟨b, rfl, S5, O5⟩
      have N5 := N4.only O5
      have D5 : Dr32 w0 w.heap.size a xs.length c 10 (.slice (some ⟨w3.heap.size, 0, none⟩) 32 32) w5 := D4.only O5 ⟨_, by omega, by omega, S5⟩
      clear D4 O5 S4 N4
      go_upto_if 22 with fail
      go_cut [5] (fun v wc => Dr32 w0 w.heap.size a xs.length c 20 v wc)
      case first =>
        cases b with
        | true =>
          go_wp2_with fail
          refine (l2Prime_any w5).mono ?_
          rintro e w6 ⟨rfl, B6, n6⟩
          have N6 := N5.up n6
          have S6 := S5.up n6
          have nC : Below w6.heap.size w6 (w6.alloc (.cells #[.int .u8 12] 5)) := (Below.refl _ _).alloc (Nat.le_refl _) _
          have BC := one_a w6 12
          have b3 := byt_one (d := 12) (by omega) (by omega)
          have e3 : bval [12] = 12 := by decide
          go_wp2_with fail
          generalize w6.alloc (.cells #[.int .u8 12] 5) = wC at *
          refine (l1Add_any wC _ _ _ _ 32 1 pbytes [12] (B6.up nC).own0.rd BC.own0.rd pbytes_byt b3 (by decide) (by decide)).mono ?_
          rintro e w7 ⟨ys5, C5, ⟨a5, c5, g5, rfl, o5, p5, q5, r5⟩, n7⟩
          have N7 := (N6.up nC).up n7
          have S7 := (S6.up nC).up n7
          have hg5 : w0.heap.size ≤ g5 := by have := (N6.up nC).size; omega
          have M5 := C5.1
          have V5 : bval ys5 = PP + 12 := by rw [C5.2.1, e3, pbytes_val]
          have L5 : ys5.length ≤ 64 := C5.len (n := 64) (by rw [pbytes_val, e3]; decide)
          clear C5 BC b3 e3 N6 S6 nC n7 B6 n6
          go_wp2_with fail
          refine (l1Next_any w7 w.heap.size g a c xs (0 + 1 + 1 + 1) 24 S7 (hr0.but N7 hne) hne hb hl (by omega) (by omega) (by decide) (by decide)).mono ?_
          rintro e w8 ⟨v6, rfl, ⟨v60, v61⟩, S8, O8⟩
          have N8 := N7.only O8
          have o8 := o5.only O8 (fun _ => by omega)
          go_wp2_with fail
          refine (l1Int_any w8 v6 v60 (by omega)).mono ?_
          rintro e w9 ⟨i1, il, ib, ⟨ai, ci, gi, rfl, oi, pi, qi, ri⟩, n9⟩
          have o9 := o8.up n9
          have N9 := N8.up n9
          have S9 := S8.up n9
          have V : Hid (bval i1 ≤ bval ys5) := by
            show _ ≤ _
            have h1 : bval i1 < 256 := by
              have := bval_lt ib
              have hp : (256 : Int) ^ i1.length ≤ 256 ^ 1 := p256_le il
              have : (256 : Int) ^ 1 = 256 := by decide
              omega
            have : (256 : Int) ≤ PP + 12 := by decide
            omega
          have LI : Hid (i1.length ≤ ys5.length) := by
            show _ ≤ _
            by_cases e : ys5.length = 0
            · have : ys5 = [] := List.eq_nil_of_length_eq_zero e
              subst this
              rw [bval_nil] at V5
              exact absurd V5 (by decide)
            · omega
          clear o5 o8 N7 N8 S7 S8 n9 O8 V5
          go_wp2_with fail
          refine (l1Sub_any w9 g5 gi a5 ai c5 ci ys5 i1 o9.rd oi.rd M5 ib (by omega) LI.out V.out).mono ?_
          rintro e wA ⟨y8, C8, ⟨a8, c8', g8, rfl, oA, p8, q8, r8⟩, nA⟩
          have L8 : y8.length ≤ 64 := C8.len (Int.lt_of_le_of_lt (show bval ys5 - bval i1 ≤ bval ys5 by have := bval_nonneg ib; omega) (Int.lt_of_lt_of_le (bval_lt M5) (p256_le L5)))
          go_wp2_with fail
          refine (l1Little_any wA g8 a8 c8' y8 32 oA.rd C8.1 (by omega) (by omega)).mono ?_
          rintro e wB ⟨rfl, BB, nB⟩
          have NA := N9.up nA
          have DC : Dr32 w0 w.heap.size a xs.length c 20 (.slice (some ⟨wA.heap.size, 0, none⟩) 32 32) wB := dr32_little C8.1 BB (by have := NA.size; omega) (NA.up nB) ⟨_, by omega, by omega, (S9.up nA).up nB⟩
          clear D5
          go_wp2_with fail
          go_meet
          exact DC
        | false =>
          go_wp2_with fail
          go_meet
          exact D5.le (by omega)
      case rest =>
        clear D5 S5 N5
        obtain ⟨ys, h1, rfl, yb, yl, oy, ry, N5, ⟨t5, t50, t51, S5⟩⟩ := hcut
        go_wp2_with fail
        refine (l1Chance_any wc w.heap.size g a c xs t5 2 S5 (hr0.but N5 hne) hne hb hl (by omega) (by omega) (by decide) (by decide)).mono ?_
        rintro e w6 ⟨b, rfl, S6, O6⟩
        have N6 := N5.only O6
        have oy6 : Blk w6 h1 .u8 ys := oy.of_block (O6.block h1 (by omega))
        have zz := hide (show w.heap.size ≤ h1 by omega)
        clear oy N5 S5 S6 O6
        cases b with
        | true =>
          have o3 := oy6.own0
          have y31 : 31 < ys.length := by rw [yl.out]; omega
          obtain ⟨off, he, hc⟩ := o3 (by omega)
          obtain rfl : off = 0 := by injection he with he; injection he with _ he; exact he.symm
          have c31 := (hc 31 y31).1
          have f31 := (hc 31 y31).2
          have yb31 := yb 31
          have OB := or_bdD yb31
          have OS := o3.store 31 y31 (bits BinOp.or IntKind.u8 (ys.getD 31 0) 128)
          have SS := hide (byt_setD yb 31 OB)
          have LS := hide (show (ys.set 31 (bits BinOp.or IntKind.u8 (ys.getD 31 0) 128)).length = 32 by rw [List.length_set]; exact yl.out)
          have ww : IntKind.u8.wrap (bits BinOp.or IntKind.u8 (ys.getD 31 0) 128) = bits BinOp.or IntKind.u8 (ys.getD 31 0) 128 := by rw [IntKind.wrap_u8]; omega
          have NS : But w.heap.size w0 (w6.setCell ⟨h1, 0 + 31, none⟩ (.int .u8 (bits BinOp.or IntKind.u8 (ys.getD 31 0) 128))) := N6.setCell ry
          have K := fin _ NS
          simp only [Nat.zero_add] at c31 f31 OS K
          clear hc he o3 oy6 y31 N6 NS
          generalize ys.set 31 (bits BinOp.or IntKind.u8 (ys.getD 31 0) 128) = ys' at *
          generalize ys.getD 31 0 = y at *
          go_wp2
          go_ret
          exact ⟨ys', SS.out, by have := LS.out; omega, ⟨_, 32, h1, by rw [LS.out]; rfl, OS, by simp, by have := LS.out; omega, zz.out⟩, K⟩
        | false =>
          have K := fin _ N6
          go_wp2
          go_ret
          exact ⟨ys, yb, by have := yl.out; omega, ⟨_, 32, h1, by rw [yl.out]; rfl, oy6.own0, by simp, by have := yl.out; omega, zz.out⟩, K⟩
    · have q2 : (r == 2) = false := by simp [h3]
      have L2 := l2DrawT_any w1 w.heap.size g a c xs (0 + 1) (by omega) (by omega) S1 (hr0.but N1 hne) hne hb hl
      clear h2 h3 r0 r1
      go_wp2_with fail
      refine L2.mono ?_
      rintro e w2 ⟨ys, yb, yl, ⟨a2, c2, g2, rfl, o2, p2, q2', r2⟩, N2, -⟩
      have K := fin _ (N1.trans N2)
      have YL := hide yl
      have ZZ : Hid (w.heap.size ≤ g2) := by show _ ≤ _; have := z1.out; omega
      clear L2 yl N2 N1
      go_wp2
      go_ret
      exact ⟨ys, yb, YL.out, ⟨_, _, g2, rfl, o2, p2, q2', ZZ.out⟩, K⟩
end Go.Proofs.YthapcapiiknjdaaDoor

/-
  The law by facts for a region that draws its order and ends with a store and an assignment, where one operation that touches no memory may come behind the store. No program in sight.
-/
namespace Go.Proofs.YthapcapiiknjdaaDoor
set_option maxRecDepth 100000
open Go Go.RowKit

section
variable {P : Program} {ops : Array Oper} {Q : Exit → Act → World → Prop} {md : Region.Mode} {F : Nat → Fact} {a0 : Act} {w0 : World}

/-- Number k, the store, waits for all ahead of it but x; number k + 1, the last, for k and x. -/
def textLate (md : Region.Mode) (ops : Array Oper) (n k x : Nat) : Bool :=
  (ops.all fun o => o.guard.isNone && (match o.dst with | some d => decide (d < n) | none => true))
  && ((List.range ops.size).all fun i => match ops[i]? with
    | some o => o.after.all (fun e => !Region.binds md e || decide (e.on < i)) && (List.range i).all fun j => match ops[j]? with
      | some x => x.dst.isNone || o.dst != x.dst
      | none => true
    | none => true)
  && decide (ops.size = k + 2 ∧ x < k)
  && ((List.range k).all fun j => j == x || (List.range (k + 1)).any fun m => decide (j < m) && m != x && match ops[m]? with
    | some o => o.after.any (fun e => Region.binds md e && e.on == j)
    | none => false)
  && (match ops[k + 1]? with | some o => o.after.any (fun e => Region.binds md e && e.on == k) && o.after.any (fun e => Region.binds md e && e.on == x) | none => false)
  && (match ops[k]? with | some o => o.dst.isNone && o.after.all (fun e => !Region.binds md e || e.on != x) | none => false)
  && ((List.range k).all fun j => match ops[j]? with | some o => o.after.all (fun e => !Region.binds md e || e.on != x) | none => false)
structure TextL (md : Region.Mode) (ops : Array Oper) (n k x : Nat) : Prop where
  g : ∀ (i : Nat) o, ops[i]? = some o → o.guard = none
  d : ∀ (i : Nat) o d, ops[i]? = some o → o.dst = some d → d < n
  a : ∀ (i : Nat) o, ops[i]? = some o → ∀ e ∈ o.after, Region.binds md e = true → e.on < i
  dx : ∀ (i j : Nat) o o' d, ops[i]? = some o → ops[j]? = some o' → i ≠ j → o.dst = some d → o'.dst ≠ some d
  k2 : ops.size = k + 2
  kx : x < k
  c : ∀ j, j < k → j ≠ x → ∃ (m : Nat) (o : Oper), j < m ∧ m ≤ k ∧ m ≠ x ∧ ops[m]? = some o ∧ ∃ e ∈ o.after, Region.binds md e = true ∧ e.on = j
  l : ∀ o, ops[k + 1]? = some o → (∃ e ∈ o.after, Region.binds md e = true ∧ e.on = k) ∧ ∃ e ∈ o.after, Region.binds md e = true ∧ e.on = x
  n1 : ∀ o, ops[k]? = some o → o.dst = none
  f : ∀ j o, j ≤ k → ops[j]? = some o → ∀ e ∈ o.after, Region.binds md e = true → e.on ≠ x
theorem textL_of {n k x : Nat} (h : textLate md ops n k x = true) : TextL md ops n k x := by
  unfold textLate at h
  simp only [Bool.and_eq_true, decide_eq_true_eq] at h
  obtain ⟨⟨⟨⟨⟨⟨h1, h2⟩, h3⟩, h4⟩, h5⟩, h6⟩, h7⟩ := h
  rw [Array.all_eq_true_iff_forall_mem] at h1
  rw [List.all_eq_true] at h2 h4 h7
  have H : ∀ (i j : Nat) o o' d, j < i → ops[i]? = some o → ops[j]? = some o' → o.dst = some d → o'.dst ≠ some d := by
    intro i j o o' d hij hi hj hd hd'
    have q := h2 i (List.mem_range.2 (Array.getElem?_eq_some_iff.1 hi).1)
    simp only [hi, Bool.and_eq_true] at q
    have r := List.all_eq_true.1 q.2 j (List.mem_range.2 hij)
    simp only [hj, hd, hd'] at r
    simp at r
  have ne : ∀ (o : Oper), o.after.all (fun e => !Region.binds md e || e.on != x) = true → ∀ e ∈ o.after, Region.binds md e = true → e.on ≠ x := by
    intro o h e he hb
    have r := (Array.all_eq_true_iff_forall_mem.1 h) e he
    rw [hb] at r
    simpa using r
  refine ⟨?_, ?_, ?_, ?_, h3.1, h3.2, ?_, ?_, ?_, ?_⟩
  · intro i o ho
    have q := h1 o (Array.mem_of_getElem? ho)
    simp only [Bool.and_eq_true] at q
    exact Option.isNone_iff_eq_none.1 q.1
  · intro i o d ho hd
    have q := h1 o (Array.mem_of_getElem? ho)
    simp only [Bool.and_eq_true, hd, decide_eq_true_eq] at q
    exact q.2
  · intro i o ho e he hb
    have q := h2 i (List.mem_range.2 (Array.getElem?_eq_some_iff.1 ho).1)
    simp only [ho, Bool.and_eq_true] at q
    have r := (Array.all_eq_true_iff_forall_mem.1 q.1) e he
    rw [hb] at r
    simpa using r
  · intro i j o o' d hi hj hij hd hd'
    rcases Nat.lt_or_gt_of_ne hij with h | h
    · exact H j i o' o d h hj hi hd' hd
    · exact H i j o o' d h hi hj hd hd'
  · intro j hj hjx
    have q := h4 j (List.mem_range.2 hj)
    simp only [Bool.or_eq_true, beq_iff_eq] at q
    rcases q with q | q
    · exact absurd q hjx
    obtain ⟨m, hm, r⟩ := List.any_eq_true.1 q
    simp only [Bool.and_eq_true, decide_eq_true_eq, bne_iff_ne] at r
    cases ho : ops[m]? with
    | none => rw [ho] at r; simp at r
    | some o =>
      rw [ho] at r
      obtain ⟨e, he, hb⟩ := Array.any_eq_true'.1 r.2
      simp only [Bool.and_eq_true, beq_iff_eq] at hb
      exact ⟨m, o, r.1.1, by have := List.mem_range.1 hm; omega, r.1.2, ho, e, he, hb.1, hb.2⟩
  · intro o ho
    rw [ho] at h5
    simp only [Bool.and_eq_true] at h5
    obtain ⟨e, he, hb⟩ := Array.any_eq_true'.1 h5.1
    obtain ⟨e', he', hb'⟩ := Array.any_eq_true'.1 h5.2
    simp only [Bool.and_eq_true, beq_iff_eq] at hb hb'
    exact ⟨⟨e, he, hb.1, hb.2⟩, e', he', hb'.1, hb'.2⟩
  · intro o ho
    rw [ho] at h6
    simp only [Bool.and_eq_true] at h6
    exact Option.isNone_iff_eq_none.1 h6.1
  · intro j o hj ho
    rcases Nat.lt_or_ge j k with c | c
    · have q := h7 j (List.mem_range.2 c)
      rw [ho] at q
      exact ne o q
    · obtain rfl : j = k := by omega
      rw [ho] at h6
      simp only [Bool.and_eq_true] at h6
      exact ne o h6.2
theorem any_late {n k x : Nat} (T : TextL md ops n k x) (hn : n ≤ a0.tmps.size) (steps : ∀ i, i < k → StepOk P md ops Q F a0 w0 i) (o1 o2 : Oper) (hk1 : ops[k]? = some o1) (hk2 : ops[k + 1]? = some o2) (dx : Nat) (wx : writes ops x dx = true) (R : Act → World → Prop)
    (hR : ∀ a W W' v, Below W.heap.size W W' → R a W → R (a.put (some dx) v) W')
    (sx : ∀ j d v w w', waits md ops x j d = true → (F j).p v w → (F j).p v w') (fx : ∀ v w w', (F x).p v w → (F x).p v w')
    (fin : ∀ a w, Based ops a0 a → Below w0.heap.size w0 w → (∀ i o d, i < k → i ≠ x → ops[i]? = some o → o.dst = some d → (F i).p (a.tmps.getD d undef) w) →
      ∀ K : Act → World → Prop, (∀ W, Below w0.heap.size w0 W → R a W → K a W) → o1.wp P a w K Q)
    (last : ∀ a W, Based ops a0 a → R a W → (F x).p (a.tmps.getD dx undef) W → o2.wp P a W (fun a' w' => Q .normal a' w') Q) :
    ∀ (fuel : Nat) (listed : Array Bool) (a : Act) (w : World), left listed ops.size ≤ fuel → Held md ops F a0 w0 listed a w → listed.getD k false = false → listed.getD (k + 1) false = false → wpAny P md ops Q fuel listed a w := by
  obtain ⟨ox, hox, hdx⟩ := writes_is wx
  have hks : k < ops.size := by have := T.k2; omega
  have hks' : k + 1 < ops.size := by have := T.k2; omega
  intro fuel
  induction fuel with
  | zero =>
    intro listed a w hl H hk hk'
    have := left_zero (listed := listed) (n := ops.size) (by omega) k hks
    rw [dflt (by rw [H.s]; exact hks), hk] at this
    simp at this
  | succ fuel ih =>
    intro listed a w hl H hk hk'
    refine ⟨fun hr => ?_, fun i hi => ?_⟩
    · exfalso
      have hall : ∀ m i, i < m → i ≤ k → listed.getD i false = true := by
        intro m
        induction m with
        | zero => intro i hi; omega
        | succ m ihm =>
          intro i hi hik
          rcases Nat.lt_or_ge i m with h1 | h1
          · exact ihm i h1 hik
          · obtain rfl : i = m := by omega
            cases hc : listed.getD i false
            · exfalso
              obtain ⟨o, ho⟩ : ∃ o, ops[i]? = some o := ⟨ops[i], by simp [show i < ops.size by omega]⟩
              have hr' : i ∈ Region.ready md ops listed := mem_ready.2 ⟨by rw [dflt (by rw [H.s]; omega)]; exact hc, o, ho, fun e he hb => ihm e.on (T.a i o ho e he hb) (by have := T.a i o ho e he hb; omega)⟩
              rw [hr] at hr'
              simp at hr'
            · rfl
      rw [hall (k + 1) k (by omega) (Nat.le_refl _)] at hk
      simp at hk
    · obtain ⟨h0, o, ho, hall⟩ := mem_ready.1 hi
      have hlt := (Array.getElem?_eq_some_iff.1 ho).1
      have hwant : Region.wanted o (yielded ops a.tmps) = true := by simp [Region.wanted, T.g i o ho]
      refine wpOp_step ho fun K' hK => ?_
      rw [if_pos hwant]
      have hll := left_set (by rw [H.s]; exact hlt) h0 ops.size hlt
      have hfacts : ∀ j d, waits md ops i j d = true → (F j).p (a.tmps.getD d undef) w := by
        intro j d hjd
        unfold waits at hjd
        rw [ho] at hjd
        cases hoj : ops[j]? with
        | none => rw [hoj] at hjd; simp at hjd
        | some oj =>
          rw [hoj] at hjd
          simp only [Bool.and_eq_true, beq_iff_eq] at hjd
          obtain ⟨e, he, hb⟩ := Array.any_eq_true'.1 hjd.1
          simp only [Bool.and_eq_true, beq_iff_eq] at hb
          exact H.f j oj d hoj (by rw [← hb.2]; exact hall e he hb.1) hjd.2
      have TT : TextT md false ops n k := ⟨T.g, T.d, T.a, T.dx, by omega, (fun h => by cases h), (fun h => by cases h)⟩
      rcases Nat.lt_or_ge i k with h1 | h1
      · refine steps i h1 o ho a w H.b H.n hfacts K' fun v w' hw hf => ?_
        refine hK _ _ (ih _ _ _ (by omega) (H.nextT TT hn ho hi hw hf) ?_ ?_)
        · rw [getD_off (by omega)]
          exact hk
        · rw [getD_off (by omega)]
          exact hk'
      · rcases Nat.lt_or_ge k i with h2 | h2
        · exfalso
          obtain rfl : i = k + 1 := by have := T.k2; omega
          obtain ⟨⟨e, he, hb, hq⟩, _⟩ := T.l o ho
          have := hall e he hb
          rw [hq, hk] at this
          simp at this
        · obtain rfl : i = k := by omega
          obtain rfl := Option.some.inj (hk1.symm.trans ho)
          have hahead : ∀ m j, i - j ≤ m → j < i → j ≠ x → listed.getD j false = true := by
            intro m
            induction m with
            | zero => intro j hm hj; omega
            | succ m ihm =>
              intro j hm hj hjx
              obtain ⟨p, oo, hjp, hpk, hpx, hoo, e, he, hb, rfl⟩ := T.c j hj hjx
              rcases Nat.lt_or_ge p i with h1 | h1
              · exact H.c p oo hoo (ihm p (by omega) h1 hpx) e he hb
              · obtain rfl : p = i := by omega
                obtain rfl := Option.some.inj (ho.symm.trans hoo)
                exact hall e he hb
          have q := fin a w H.b H.n (fun j oj d hj hjx hoj hd => H.f j oj d hoj (hahead (i - j) j (Nat.le_refl _) hj hjx) hd)
          refine q _ fun W hW hRW => hK _ _ ?_
          have hs2 : (listed.setIfInBounds i true).size = ops.size := by simp [H.s]
          have g1 : (listed.setIfInBounds i true).getD (i + 1) true = false := by
            rw [getD_off (by omega), dflt (by rw [H.s]; exact hks')]
            exact hk'
          have hall2 : ∀ j, j ≠ i + 1 → j ≠ x → j < ops.size → (listed.setIfInBounds i true).getD j true = true := by
            intro j hj hjx hjs
            by_cases e : i = j
            · subst e
              exact getD_same (by rw [H.s]; exact hlt) _
            · rw [getD_off e, dflt (by rw [H.s]; exact hjs)]
              exact hahead (i - j) j (Nat.le_refl _) (by have := T.k2; omega) hjx
          have gx : (listed.setIfInBounds i true).getD x true = listed.getD x false := by
            rw [getD_off (by have := T.kx; omega), dflt (by rw [H.s]; have := T.kx; omega)]
          -- the last one alone is left
          have fin2 : ∀ (l2 : Array Bool) (fuel : Nat) (b : Act) (V : World), l2.size = ops.size → (∀ j, j ≠ i + 1 → j < ops.size → l2.getD j true = true) → l2.getD (i + 1) true = false → left l2 ops.size ≤ fuel → Based ops a0 b → R b V → (F x).p (b.tmps.getD dx undef) V → wpAny P md ops Q fuel l2 b V := by
            intro l2 fuel b V hs2 hl2 hg hf hb hRb hfx
            have l1 : 0 < left l2 ops.size := by
              rcases Nat.eq_zero_or_pos (left l2 ops.size) with z | z
              · have := left_zero (n := ops.size) z (i + 1) hks'
                rw [hg] at this
                simp at this
              · exact z
            obtain ⟨f2, rfl⟩ : ∃ f2, fuel = f2 + 1 := ⟨fuel - 1, by omega⟩
            refine ⟨fun hr => ?_, fun j hj => ?_⟩
            · exfalso
              have hr' : i + 1 ∈ Region.ready md ops l2 := mem_ready.2 ⟨hg, o2, hk2, fun e he hb => by
                have := T.a (i + 1) o2 hk2 e he hb
                rw [← dflt (by rw [hs2]; omega)]
                exact hl2 e.on (by omega) (by omega)⟩
              rw [hr] at hr'
              simp at hr'
            · obtain ⟨g0, oj, hoj, _⟩ := mem_ready.1 hj
              have hjl := (Array.getElem?_eq_some_iff.1 hoj).1
              by_cases e : j = i + 1
              · subst e
                obtain rfl := Option.some.inj (hk2.symm.trans hoj)
                have hwant2 : Region.wanted o2 (yielded ops b.tmps) = true := by simp [Region.wanted, T.g (i + 1) o2 hk2]
                refine wpOp_step hk2 fun K2 hK2 => ?_
                rw [if_pos hwant2]
                refine Oper.wp_mono (fun a2 w2 h2' => hK2 _ _ (wpAny_done ?_ h2' f2)) (last b V hb hRb hfx)
                cases hr : Region.ready md ops (l2.setIfInBounds (i + 1) true) with
                | nil => rfl
                | cons m t =>
                  exfalso
                  have hm : m ∈ Region.ready md ops (l2.setIfInBounds (i + 1) true) := by rw [hr]; simp
                  obtain ⟨q0, om, hom, _⟩ := mem_ready.1 hm
                  have hml := (Array.getElem?_eq_some_iff.1 hom).1
                  by_cases e : i + 1 = m
                  · subst e
                    rw [getD_same (by rw [hs2]; exact hks')] at q0
                    simp at q0
                  · rw [getD_off e, hl2 m (by omega) hml] at q0
                    simp at q0
              · exfalso
                rw [hl2 j e hjl] at g0
                simp at g0
          cases hxl : listed.getD x false with
          | true =>
            refine fin2 _ fuel a W hs2 (fun j hj hjs => ?_) g1 (by omega) H.b hRW (fx _ w _ (H.f x ox dx hox hxl hdx))
            by_cases c : j = x
            · rw [c, gx, hxl]
            · exact hall2 j hj c hjs
          | false =>
            have hxs : x < ops.size := by have := T.kx; omega
            have l1 : 0 < left (listed.setIfInBounds i true) ops.size := by
              rcases Nat.eq_zero_or_pos (left (listed.setIfInBounds i true) ops.size) with z | z
              · have := left_zero (n := ops.size) z (i + 1) hks'
                rw [g1] at this
                simp at this
              · exact z
            obtain ⟨f2, rfl⟩ : ∃ f2, fuel = f2 + 1 := ⟨fuel - 1, by omega⟩
            generalize hl2 : listed.setIfInBounds i true = l2 at *
            have rx : x ∈ Region.ready md ops l2 := mem_ready.2 ⟨by rw [gx, hxl], ox, hox, fun e he hb => by
              have h1 := T.a x ox hox e he hb
              rw [← dflt (by rw [hs2]; omega)]
              exact hall2 e.on (by have := T.kx; omega) (by omega) (by omega)⟩
            refine ⟨fun hr => ?_, fun j hj => ?_⟩
            · exfalso
              rw [hr] at rx
              simp at rx
            · obtain ⟨g0, oj, hoj, hready⟩ := mem_ready.1 hj
              have hjl := (Array.getElem?_eq_some_iff.1 hoj).1
              by_cases e : j = x
              · subst e
                obtain rfl := Option.some.inj (hox.symm.trans hoj)
                have hwant2 : Region.wanted ox (yielded ops a.tmps) = true := by simp [Region.wanted, T.g j ox hox]
                refine wpOp_step hox fun K2 hK2 => ?_
                rw [if_pos hwant2]
                have hll2 := left_set (by rw [hs2]; exact hxs) g0 ops.size hxs
                refine steps j T.kx ox hox a W H.b hW (fun p d hpd => ?_) K2 fun v w' hw hf => ?_
                · unfold waits at hpd
                  rw [hox] at hpd
                  cases hop : ops[p]? with
                  | none => rw [hop] at hpd; simp at hpd
                  | some op =>
                    have hpd0 := hpd
                    rw [hop] at hpd
                    simp only [Bool.and_eq_true, beq_iff_eq] at hpd
                    obtain ⟨e, he, hb⟩ := Array.any_eq_true'.1 hpd.1
                    simp only [Bool.and_eq_true, beq_iff_eq] at hb
                    have h1 := T.a j ox hox e he hb.1
                    have hw' : waits md ops j p d = true := by
                      unfold waits
                      rw [hox, hop]
                      simp only [Bool.and_eq_true, beq_iff_eq]
                      exact hpd
                    exact sx p d _ w W hw' (H.f p op d hop (hahead (i - p) p (Nat.le_refl _) (by have := T.kx; omega) (by omega)) hpd.2)
                · refine hK2 _ _ (fin2 (l2.setIfInBounds j true) f2 _ _ (by simp [hs2]) (fun m hm hms => ?_) ?_ (by omega) ?_ ?_ ?_)
                  · by_cases c : j = m
                    · subst c
                      exact getD_same (by rw [hs2]; exact hxs) _
                    · rw [getD_off c]
                      exact hall2 m hm (Ne.symm c) hms
                  · rw [getD_off (by have := T.kx; omega)]
                    exact g1
                  · exact H.b.put hox v
                  · rw [hdx]
                    exact hR a W w' v hw hRW
                  · rw [hdx, put_at (by rw [H.b.2.1]; exact Nat.lt_of_lt_of_le (T.d j ox dx hox hdx) hn)]
                    exact hf
              · exfalso
                by_cases e2 : j = i + 1
                · subst e2
                  obtain rfl := Option.some.inj (hk2.symm.trans hoj)
                  obtain ⟨_, ⟨e3, he3, hb3, hq3⟩⟩ := T.l o2 hk2
                  have := hready e3 he3 hb3
                  rw [hq3, ← dflt (by rw [hs2]; exact hxs), gx, hxl] at this
                  simp at this
                · rw [hall2 j e2 e hjl] at g0
                  simp at g0
/-- The same for the region. -/
theorem region_late {id : Nat} {w : World} (k x : Nat) (F : Nat → Fact) (hm : P.follows .mixedOrders = true) (hT : textLate .any ops a0.tmps.size k x = true) (steps : ∀ i, i < k → StepOk P .any ops Q F a0 w i) (o1 o2 : Oper) (hk1 : ops[k]? = some o1) (hk2 : ops[k + 1]? = some o2) (dx : Nat) (wx : writes ops x dx = true) (R : Act → World → Prop)
    (hR : ∀ a W W' v, Below W.heap.size W W' → R a W → R (a.put (some dx) v) W')
    (sx : ∀ j d v w w', waits .any ops x j d = true → (F j).p v w → (F j).p v w') (fx : ∀ v w w', (F x).p v w → (F x).p v w')
    (fin : ∀ a W, Based ops a0 a → Below w.heap.size w W → (∀ i d, decide (i < k ∧ i ≠ x) = true → writes ops i d = true → (F i).p (a.tmps.getD d undef) W) →
      ∀ K : Act → World → Prop, (∀ W', Below w.heap.size w W' → R a W' → K a W') → o1.wp P a W K Q)
    (last : ∀ a W, Based ops a0 a → R a W → (F x).p (a.tmps.getD dx undef) W → o2.wp P a W (fun a' w' => Q .normal a' w') Q) : (Code.region id ops true).wp P Q a0 w := by
  have T := textL_of hT
  have z : ∀ j, (Array.replicate ops.size false).getD j false = false := fun j => by
    rw [Array.getD_eq_getD_getElem?, Array.getElem?_replicate]
    split <;> rfl
  refine wp_region_any hm ?_
  refine any_late (w0 := w) T (Nat.le_refl _) steps o1 o2 hk1 hk2 dx wx R hR sx fx (fun a W hb hw hf => fin a W hb hw (fun i d hi hd => ?_)) last ops.size _ a0 _ ?_ ⟨⟨rfl, rfl, fun _ _ => rfl⟩, (Below.refl _ _).drew, ?_, ?_, by simp⟩ (z k) (z (k + 1))
  · obtain ⟨o, ho, hd'⟩ := writes_is hd
    have c := of_decide_eq_true hi
    exact hf i o d c.1 c.2 ho hd'
  · have : ∀ m, left (Array.replicate ops.size false) m ≤ m := by
      intro m
      induction m with
      | zero => exact Nat.le_refl _
      | succ m ih => unfold left; split <;> omega
    exact this _
  · intro i o d ho hl _
    rw [z] at hl
    simp at hl
  · intro i o ho hl
    rw [z] at hl
    simp at hl
theorem puts_late {n k x : Nat} (hT : textLate md ops n k x = true) (hn : n = a0.tmps.size) {a : Act} (hb : Based ops a0 a) (vs : Nat → Value) (hv : ∀ d, a.tmps.getD d undef = vs d) : a = puts vs a0 ops.toList := by
  have T := textL_of hT
  have hin : ∀ o ∈ ops.toList, ∀ e, o.dst = some e → e < a0.tmps.size := fun o ho e he => by
    obtain ⟨i, hi⟩ := List.getElem?_of_mem ho
    have := T.d i o e (by simpa using hi) he
    rw [hn] at this
    exact this
  obtain ⟨s1, s2⟩ := puts_size vs ops.toList a0
  obtain ⟨ta, da⟩ := a
  obtain ⟨h1, h2, h3⟩ := hb
  have e1 : ta = (puts vs a0 ops.toList).tmps := by
    apply Array.ext
    · rw [s1]; exact h2
    · intro i hi hi'
      have g := puts_get vs i ops.toList a0 hin
      have l : ta[i] = ta.getD i undef := by simp [Array.getD_eq_getD_getElem?, hi]
      have r : (puts vs a0 ops.toList).tmps[i] = (puts vs a0 ops.toList).tmps.getD i undef := by simp only [Array.getD_eq_getD_getElem?, Array.getElem?_eq_getElem hi', Option.getD_some]
      rw [l, r, g]
      by_cases c : ops.toList.any (fun o => o.dst == some i) = true
      · rw [if_pos c]; exact hv i
      · rw [if_neg c]
        refine h3 i ?_
        unfold apart
        rw [Array.all_eq_true_iff_forall_mem]
        intro o ho
        have hne : ¬ (o.dst == some i) = true := fun x => c (List.any_eq_true.2 ⟨o, by simpa using ho, x⟩)
        simpa using hne
  have e2 : da = (puts vs a0 ops.toList).defers := h1.trans s2.symm
  subst e1
  subst e2
  rfl
end
end Go.Proofs.YthapcapiiknjdaaDoor

/-
  The program's root of an element.
-/
namespace Go.Proofs.YthapcapiiknjdaaDoor
set_option maxRecDepth 100000
open Go.RowKit

theorem Blk.l5 {w : World} {g : Nat} {u : Nat → Int} (h : Blk w g .u64 [u 0, u 1, u 2, u 3, u 4]) : w.cell? ⟨g, 0, none⟩ = some (.int .u64 (u 0)) ∧ w.cell? ⟨g, 1, none⟩ = some (.int .u64 (u 1)) ∧ w.cell? ⟨g, 2, none⟩ = some (.int .u64 (u 2)) ∧ w.cell? ⟨g, 3, none⟩ = some (.int .u64 (u 3)) ∧ w.cell? ⟨g, 4, none⟩ = some (.int .u64 (u 4)) := h.f5.1
abbrev put5 (W : World) (p : Nat) (u : Nat → Int) : World := ((((W.setCell ⟨p, 0, none⟩ (.int .u64 (u 0))).setCell ⟨p, 1, none⟩ (.int .u64 (u 1))).setCell ⟨p, 2, none⟩ (.int .u64 (u 2))).setCell ⟨p, 3, none⟩ (.int .u64 (u 3))).setCell ⟨p, 4, none⟩ (.int .u64 (u 4))
theorem put5_same {W : World} {p : Nat} {a b c d e : Int} (u : Nat → Int) (h : Blk W p .u64 [a, b, c, d, e]) : Blk (put5 W p u) p .u64 [u 0, u 1, u 2, u 3, u 4] :=
  ((((h.store 0 _).store 1 _).store 2 _).store 3 _).store 4 _
theorem bset {W : World} {g p i : Nat} {k : IntKind} {ys : List Int} {v : Value} (h : Blk W g k ys) (hne : g ≠ p) : Blk (W.setCell ⟨p, i, none⟩ v) g k ys := h.of_block (heap_setCell_other W ⟨p, i, none⟩ g v hne)
theorem put5_keep {W : World} {p g : Nat} {k : IntKind} {ys : List Int} {u : Nat → Int} (h : Blk W g k ys) (hne : g ≠ p) : Blk (put5 W p u) g k ys := bset (bset (bset (bset (bset h hne) hne) hne) hne) hne

/-- What the root answers. -/
def RootOut (A : Int) (r : Ending) : Prop := (r1I A * r1I A % PP = A ∧ ∃ t, r = .returned (.tuple #[ag5 t, .bool true]) ∧ Lm t ∧ sv t 5 = fin2 (r1I A)) ∨ (¬ r1I A * r1I A % PP = A ∧ r = .returned (.tuple #[ag5 z5e, .bool false]))

set_option maxHeartbeats 8000000 in
theorem root_any (w : World) (e : Nat → Int) (he : Elm e) (hR : HasR w) :
    Calls Tryd.prog 119 #[ag5 e] w fun r w' => RootOut (sv e 5) r ∧ Below w.heap.size w w' := by
  have heL := he.1
  have B0 := blk_box w .u64 56 (e 0) (e 1) (e 2) (e 3) (e 4)
  have n0 : Below w.heap.size w (w.alloc (.cells #[.int .u64 (e 0), .int .u64 (e 1), .int .u64 (e 2), .int .u64 (e 3), .int .u64 (e 4)] 56)) := (Below.refl _ _).alloc (Nat.le_refl _) _
  have s0 : (w.alloc (.cells #[.int .u64 (e 0), .int .u64 (e 1), .int .u64 (e 2), .int .u64 (e 3), .int .u64 (e 4)] 56)).heap.size = w.heap.size + 1 := by simp
  have CH := fun W (h : Below w.heap.size w W) => chain_any W e he 12 2 2 (by omega) (by omega) (by omega) (hR.up h).1
  rw [eRt_ok] at CH
  simp only [ag5] at CH ⊢
  go_enter Tryd.func119, Tryd.ntmps119
  go_upto_region 1 with fail
  generalize w.alloc (.cells #[.int .u64 (e 0), .int .u64 (e 1), .int .u64 (e 2), .int .u64 (e 3), .int .u64 (e 4)] 56) = wa at *
  have B1 := blk_box wa .u64 56 0 0 0 0 0
  have n1 : Below wa.heap.size wa (wa.alloc (.cells #[.int .u64 0, .int .u64 0, .int .u64 0, .int .u64 0, .int .u64 0] 56)) := (Below.refl _ _).alloc (Nat.le_refl _) _
  rw [s0] at B1
  generalize wa.alloc (.cells #[.int .u64 0, .int .u64 0, .int .u64 0, .int .u64 0, .int .u64 0] 56) = wb at *
  have N1 := nxt n0 n1
  obtain ⟨⟨q0, q1, q2, q3, q4⟩, _⟩ := (B0.up n1).f5
  obtain ⟨i0, i1, i2⟩ := (hR.up N1).2.1
  have E0 := B0.up n1
  clear n0 n1 s0 B0
  go_wp2_with fail
  refine (CH wb N1).mono ?_
  rintro r w1 ⟨t, rfl, L, V, n2⟩
  have N2 := nxt N1 n2
  have E02 := E0.up n2
  have E12 := B1.up n2
  have T := blk_box w1 .u64 56 (t 0) (t 1) (t 2) (t 3) (t 4)
  have n3 : Below w1.heap.size w1 (w1.alloc (.cells #[.int .u64 (t 0), .int .u64 (t 1), .int .u64 (t 2), .int .u64 (t 3), .int .u64 (t 4)] 56)) := (Below.refl _ _).alloc (Nat.le_refl _) _
  have VR : Hid (sv t 5 = rtR (sv e 5)) := V
  have zz := E12.lt
  clear CH V q0 q1 q2 q3 q4 i0 i1 i2 E0 B1 N1 n2
  go_upto_region 2 with fail
  have E03 := E02.up n3
  have E13 := E12.up n3
  have N3 := nxt N2 n3
  generalize w1.alloc (.cells #[.int .u64 (t 0), .int .u64 (t 1), .int .u64 (t 2), .int .u64 (t 3), .int .u64 (t 4)] 56) = wr at *
  generalize w1.heap.size = pr at *
  have CE : Hid (∀ W, Below wr.heap.size wr W → (W.cell? ⟨pr, 0, none⟩ = some (.int .u64 (t 0)) ∧ W.cell? ⟨pr, 1, none⟩ = some (.int .u64 (t 1)) ∧ W.cell? ⟨pr, 2, none⟩ = some (.int .u64 (t 2)) ∧ W.cell? ⟨pr, 3, none⟩ = some (.int .u64 (t 3)) ∧ W.cell? ⟨pr, 4, none⟩ = some (.int .u64 (t 4))) ∧ (W.cell? ⟨w.heap.size, 0, none⟩ = some (.int .u64 (e 0)) ∧ W.cell? ⟨w.heap.size, 1, none⟩ = some (.int .u64 (e 1)) ∧ W.cell? ⟨w.heap.size, 2, none⟩ = some (.int .u64 (e 2)) ∧ W.cell? ⟨w.heap.size, 3, none⟩ = some (.int .u64 (e 3)) ∧ W.cell? ⟨w.heap.size, 4, none⟩ = some (.int .u64 (e 4)))) := fun W n => ⟨(T.up n).f5.1, (E03.up n).f5.1⟩
  have SQ : Hid (∀ W, Below wr.heap.size wr W → Calls Tryd.prog 118 #[.agg #[.int .u64 (t 0), .int .u64 (t 1), .int .u64 (t 2), .int .u64 (t 3), .int .u64 (t 4)]] W fun r w' => ∃ u, r = .returned (.agg #[.int .u64 (u 0), .int .u64 (u 1), .int .u64 (u 2), .int .u64 (u 3), .int .u64 (u 4)]) ∧ Hid (Lm u ∧ sv u 5 = sv t 5 * sv t 5 % PP) ∧ Below wr.heap.size wr w') := by
    intro W n
    refine (square_any W t L).mono ?_
    rintro r w' ⟨u, rfl, Lu, Vu, n'⟩
    exact ⟨u, rfl, ⟨Lu, Vu⟩, nxt n n'⟩
  have NG : Hid (∀ W, Below wr.heap.size wr W → Calls Tryd.prog 110 #[.agg #[.int .u64 (e 0), .int .u64 (e 1), .int .u64 (e 2), .int .u64 (e 3), .int .u64 (e 4)]] W fun r w' => ∃ u, r = .returned (.agg #[.int .u64 (u 0), .int .u64 (u 1), .int .u64 (u 2), .int .u64 (u 3), .int .u64 (u 4)]) ∧ Hid (Lm u ∧ sv u 5 = (0 - sv e 5) % PP) ∧ Below wr.heap.size wr w') := by
    intro W n
    refine (negate_any W e heL ((hR.up (nxt N3 n)).2.2.2)).mono ?_
    rintro r w' ⟨u, rfl, Lu, Vu, n'⟩
    exact ⟨u, rfl, ⟨Lu, Vu⟩, nxt n n'⟩
  have nd : Below wr.heap.size wr wr.drew := (Below.refl _ _).drew
  have EQ := eqElem
  go_cut [12] (fun v wc => v = .bool (decide (rtR (sv e 5) * rtR (sv e 5) % PP = (0 - sv e 5) % PP)) ∧ Below wr.heap.size wr wc)
  case first =>
    go_region_held3 (fun W => (W.cell? ⟨pr, 0, none⟩ = some (.int .u64 (t 0)) ∧ W.cell? ⟨pr, 1, none⟩ = some (.int .u64 (t 1)) ∧ W.cell? ⟨pr, 2, none⟩ = some (.int .u64 (t 2)) ∧ W.cell? ⟨pr, 3, none⟩ = some (.int .u64 (t 3)) ∧ W.cell? ⟨pr, 4, none⟩ = some (.int .u64 (t 4))) ∧ (W.cell? ⟨w.heap.size, 0, none⟩ = some (.int .u64 (e 0)) ∧ W.cell? ⟨w.heap.size, 1, none⟩ = some (.int .u64 (e 1)) ∧ W.cell? ⟨w.heap.size, 2, none⟩ = some (.int .u64 (e 2)) ∧ W.cell? ⟨w.heap.size, 3, none⟩ = some (.int .u64 (e 3)) ∧ W.cell? ⟨w.heap.size, 4, none⟩ = some (.int .u64 (e 4))))
      (first | exact (unhide CE) _ nd | exact (unhide CE) _ ns | exact (unhide CE) _ nm)
      (first
        | (go_at_call 118; refine ((unhide SQ) _ (by first | exact nd | exact nm)).mono ?_; rintro r ws ⟨u, rfl, LU, ns⟩)
        | (go_at_call 110; refine ((unhide NG) _ (by first | exact nd | exact ns)).mono ?_; rintro r wm ⟨v, rfl, LV, nm⟩))
    all_goals
      have BB : Hid ((u 0 == v 0 && u 1 == v 1 && u 2 == v 2 && u 3 == v 3 && u 4 == v 4) = decide (rtR (sv e 5) * rtR (sv e 5) % PP = (0 - sv e 5) % PP)) := by
        show _ = _
        rw [eq_Lm LU.out.1 LV.out.1, LU.out.2, LV.out.2, VR.out]
      clear SQ NG CE EQ
      go_wp2_with fail
      go_meet
      first
        | exact ⟨congrArg Value.bool BB.out, nm⟩
        | exact ⟨congrArg Value.bool BB.out, ns⟩
  case rest =>
    obtain ⟨rfl, nc⟩ := hcut
    have T4 := T.up nc
    have E04 := E03.up nc
    have E14 := E13.up nc
    have N4 := nxt N3 nc
    have hR4 := hR.up N4
    have MU := fun W => mulE_any W t iL L iL_lm
    rw [iL_val] at MU
    obtain ⟨j0, j1, j2, j3, j4⟩ : wc.cell? ⟨6, 0, none⟩ = some (.int .u64 (iL 0)) ∧ wc.cell? ⟨6, 1, none⟩ = some (.int .u64 (iL 1)) ∧ wc.cell? ⟨6, 2, none⟩ = some (.int .u64 (iL 2)) ∧ wc.cell? ⟨6, 3, none⟩ = some (.int .u64 (iL 3)) ∧ wc.cell? ⟨6, 4, none⟩ = some (.int .u64 (iL 4)) :=
      ⟨hR4.2.2.1 0 (by omega), hR4.2.2.1 1 (by omega), hR4.2.2.1 2 (by omega), hR4.2.2.1 3 (by omega), hR4.2.2.1 4 (by omega)⟩
    obtain ⟨il, hil⟩ : ∃ f, f = iL := ⟨_, rfl⟩
    rw [← hil] at MU j0 j1 j2 j3 j4
    have ple := T4.lt
    have pe := E04.lt
    clear hil SQ NG CE nd T E02 E12 E03 E13 N2 N3 nc n3
    simp only [ag5] at MU
    have KR : Hid (sv t 5 = rtR (sv e 5)) := VR
    go_upto_if 12 with fail
    go_cut [] (fun wc => ∃ t1, Blk wc pr .u64 [t1 0, t1 1, t1 2, t1 3, t1 4] ∧ Lm t1 ∧ Hid (sv t1 5 = r1I (sv e 5)) ∧ Blk wc w.heap.size .u64 [e 0, e 1, e 2, e 3, e 4] ∧ Blk wc (w.heap.size + 1) .u64 [0, 0, 0, 0, 0] ∧ Below w.heap.size w wc)
    case first =>
      by_cases cc : rtR (sv e 5) * rtR (sv e 5) % PP = (0 - sv e 5) % PP
      · have k1 : Hid (r1I (sv e 5) = sv t 5 * iM % PP) := by show _ = _; rw [KR.out, r1I, if_pos cc]
        rw [decide_eq_true cc]
        clear cc
        obtain ⟨y0, y1, y2, y3, y4⟩ := T4.f5.1
        go_wp2_with fail
        refine (MU wc).mono ?_
        rintro r wm ⟨t1, rfl, L1, V1, nm⟩
        obtain ⟨⟨z0, z1, z2, z3, z4⟩, ⟨f0, f1, f2, f3, f4⟩⟩ := (T4.up nm).f5
        have S0 := put5_same t1 (T4.up nm)
        have S1 := put5_keep (p := pr) (u := t1) (E04.up nm) (by omega)
        have S2 := put5_keep (p := pr) (u := t1) (E14.up nm) (by omega)
        have S3 : Below w.heap.size w (put5 wm pr t1) := below_set5 (nxt N4 nm) (by omega) _ _ _ _ _
        have V1' : Hid (sv t1 5 = r1I (sv e 5)) := by rw [k1.out]; exact V1
        clear MU j0 j1 j2 j3 j4 V1 y0 y1 y2 y3 y4
        go_wp2_with fail
        go_meet
        exact ⟨t1, S0, L1, V1', S1, S2, S3⟩
      · have k1 : Hid (sv t 5 = r1I (sv e 5)) := by show _ = _; rw [KR.out, r1I, if_neg cc]
        rw [decide_eq_false cc]
        clear cc
        go_wp2_with fail
        go_meet
        exact ⟨t, T4, L, k1, E04, E14, N4⟩
    case rest =>
      clear T4 E04 E14 MU j0 j1 j2 j3 j4 N4 hR4 KR VR L
      obtain ⟨t1, T1, L1, V1, E0, E1, N5⟩ := hcut
      have zr := T1.lt
      have CE : Hid (∀ W, Below wc.heap.size wc W → (W.cell? ⟨pr, 0, none⟩ = some (.int .u64 (t1 0)) ∧ W.cell? ⟨pr, 1, none⟩ = some (.int .u64 (t1 1)) ∧ W.cell? ⟨pr, 2, none⟩ = some (.int .u64 (t1 2)) ∧ W.cell? ⟨pr, 3, none⟩ = some (.int .u64 (t1 3)) ∧ W.cell? ⟨pr, 4, none⟩ = some (.int .u64 (t1 4))) ∧ (W.cell? ⟨w.heap.size, 0, none⟩ = some (.int .u64 (e 0)) ∧ W.cell? ⟨w.heap.size, 1, none⟩ = some (.int .u64 (e 1)) ∧ W.cell? ⟨w.heap.size, 2, none⟩ = some (.int .u64 (e 2)) ∧ W.cell? ⟨w.heap.size, 3, none⟩ = some (.int .u64 (e 3)) ∧ W.cell? ⟨w.heap.size, 4, none⟩ = some (.int .u64 (e 4)))) := fun W n => ⟨(T1.up n).f5.1, (E0.up n).f5.1⟩
      have SQ : Hid (∀ W, Below wc.heap.size wc W → Calls Tryd.prog 118 #[.agg #[.int .u64 (t1 0), .int .u64 (t1 1), .int .u64 (t1 2), .int .u64 (t1 3), .int .u64 (t1 4)]] W fun r w' => ∃ u, r = .returned (.agg #[.int .u64 (u 0), .int .u64 (u 1), .int .u64 (u 2), .int .u64 (u 3), .int .u64 (u 4)]) ∧ Hid (Lm u ∧ sv u 5 = sv t1 5 * sv t1 5 % PP) ∧ Below wc.heap.size wc w') := by
        intro W n
        refine (square_any W t1 L1).mono ?_
        rintro r w' ⟨u, rfl, Lu, Vu, n'⟩
        exact ⟨u, rfl, ⟨Lu, Vu⟩, nxt n n'⟩
      have nd : Below wc.heap.size wc wc.drew := (Below.refl _ _).drew
      go_upto_region 4 with fail
      go_cut [19] (fun v wd => v = .bool (!decide (r1I (sv e 5) * r1I (sv e 5) % PP = sv e 5)) ∧ Below wc.heap.size wc wd)
      case first =>
        go_region_held3 (fun W => (W.cell? ⟨pr, 0, none⟩ = some (.int .u64 (t1 0)) ∧ W.cell? ⟨pr, 1, none⟩ = some (.int .u64 (t1 1)) ∧ W.cell? ⟨pr, 2, none⟩ = some (.int .u64 (t1 2)) ∧ W.cell? ⟨pr, 3, none⟩ = some (.int .u64 (t1 3)) ∧ W.cell? ⟨pr, 4, none⟩ = some (.int .u64 (t1 4))) ∧ (W.cell? ⟨w.heap.size, 0, none⟩ = some (.int .u64 (e 0)) ∧ W.cell? ⟨w.heap.size, 1, none⟩ = some (.int .u64 (e 1)) ∧ W.cell? ⟨w.heap.size, 2, none⟩ = some (.int .u64 (e 2)) ∧ W.cell? ⟨w.heap.size, 3, none⟩ = some (.int .u64 (e 3)) ∧ W.cell? ⟨w.heap.size, 4, none⟩ = some (.int .u64 (e 4))))
          (first | exact (unhide CE) _ nd | exact (unhide CE) _ ns)
          (first
            | (go_at_call 118; refine ((unhide SQ) _ nd).mono ?_; rintro r ws ⟨u, rfl, LU, ns⟩))
        all_goals
          have BB : Hid ((u 0 == e 0 && u 1 == e 1 && u 2 == e 2 && u 3 == e 3 && u 4 == e 4) = decide (r1I (sv e 5) * r1I (sv e 5) % PP = sv e 5)) := by
            show _ = _
            rw [eq_Lm LU.out.1 heL, LU.out.2, V1.out]
          clear SQ CE EQ
          go_wp2_with fail
          go_meet
          exact ⟨by rw [← BB.out]; simp only [Bool.not_and], ns⟩
      case rest =>
        obtain ⟨rfl, nc⟩ := hcut
        have T6 := T1.up nc
        have E6 := E1.up nc
        have N6 := nxt N5 nc
        clear SQ CE EQ nd T1 E0 E1 N5 nc
        by_cases gg : r1I (sv e 5) * r1I (sv e 5) % PP = sv e 5
        · have G : Hid (r1I (sv e 5) * r1I (sv e 5) % PP = sv e 5) := gg
          rw [decide_eq_true gg]
          clear gg
          have EV := fun W => isEven_any W t1 L1
          obtain ⟨y0, y1, y2, y3, y4⟩ := T6.f5.1
          by_cases ev : sv t1 5 % 2 = 0
          · have K : Hid (sv t1 5 = fin2 (r1I (sv e 5))) := by show _ = _; rw [← V1.out, fin2, if_pos ev]
            rw [decide_eq_true ev] at EV
            clear ev
            simp only [ag5] at EV
            go_wp2_with fail
            refine (EV _).mono ?_
            rintro r w7 ⟨rfl, n7⟩
            have N7 := nxt N6 n7
            obtain ⟨⟨p0, p1, p2, p3, p4⟩, ⟨g0, g1, g2, g3, g4⟩⟩ := (E6.up n7).f5
            obtain ⟨x0, x1, x2, x3, x4⟩ := (T6.up n7).f5.1
            clear EV y0 y1 y2 y3 y4 T6 E6 N6 n7
            go_wp2
            refine bodyPost_ret (v := .tuple #[ag5 t1, .bool true]) (by simp [ag5, results, Tryd.results119, go_sem, p0, p1, p2, p3, p4]) rfl ⟨Or.inl ⟨G.out, t1, rfl, L1, K.out⟩, ?_⟩
            exact below_set5 N7 (by omega) _ _ _ _ _
          · have K : Hid ((0 - sv t1 5) % PP = fin2 (r1I (sv e 5))) := by show _ = _; rw [← V1.out, fin2, if_neg ev]
            rw [decide_eq_false ev] at EV
            clear ev
            simp only [ag5] at EV
            go_wp2_with fail
            refine (EV _).mono ?_
            rintro r w7 ⟨rfl, n7⟩
            have N7 := nxt N6 n7
            have E7 := E6.up n7
            have T7 := T6.up n7
            obtain ⟨x0, x1, x2, x3, x4⟩ := T7.f5.1
            have NG := fun W (h : Below w.heap.size w W) => negate_any W t1 L1 ((hR.up h).2.2.2)
            simp only [ag5] at NG
            clear EV y0 y1 y2 y3 y4 T6 E6 N6 n7
            go_wp2_with fail
            refine (NG w7 N7).mono ?_
            rintro r w8 ⟨t2, rfl, L2, W2, n8⟩
            have K2 : Hid (sv t2 5 = fin2 (r1I (sv e 5))) := by rw [← K.out]; exact W2
            have N8 := nxt N7 n8
            obtain ⟨⟨z0, z1, z2, z3, z4⟩, ⟨f0, f1, f2, f3, f4⟩⟩ := (T7.up n8).f5
            have S0 := put5_same t2 (T7.up n8)
            have S2 := put5_keep (p := pr) (u := t2) (E7.up n8) (by omega)
            have S3 : Below w.heap.size w (put5 w8 pr t2) := below_set5 N8 (by omega) _ _ _ _ _
            obtain ⟨⟨p0, p1, p2, p3, p4⟩, ⟨g0, g1, g2, g3, g4⟩⟩ := S2.f5
            obtain ⟨c0, c1, c2, c3, c4⟩ := S0.f5.1
            clear NG x0 x1 x2 x3 x4 T7 E7 N7 n8 W2 N8 S0 S2
            go_wp2
            refine bodyPost_ret (v := .tuple #[ag5 t2, .bool true]) (by simp [ag5, results, Tryd.results119, go_sem, p0, p1, p2, p3, p4]) rfl ⟨Or.inl ⟨G.out, t2, rfl, L2, K2.out⟩, ?_⟩
            exact below_set5 S3 (by omega) _ _ _ _ _
        · have G : Hid (¬ r1I (sv e 5) * r1I (sv e 5) % PP = sv e 5) := gg
          rw [decide_eq_false gg]
          clear gg
          obtain ⟨⟨p0, p1, p2, p3, p4⟩, ⟨g0, g1, g2, g3, g4⟩⟩ := E6.f5
          go_wp2
          refine bodyPost_ret (v := .tuple #[ag5 z5e, .bool false]) (by simp [ag5, z5e, results, Tryd.results119, go_sem, p0, p1, p2, p3, p4]) rfl ⟨Or.inr ⟨G.out, rfl⟩, ?_⟩
          exact below_set5 N6 (by omega) _ _ _ _ _
end Go.Proofs.YthapcapiiknjdaaDoor

/-
  The program's pointWith: the point of a y and a parity.
-/
namespace Go.Proofs.YthapcapiiknjdaaDoor
set_option maxRecDepth 100000
open Go Go.RowKit

/-- What the program's root answers. -/
def irB (A : Int) : Bool := decide (r1I (A % PP) * r1I (A % PP) % PP = A % PP)
def irV (A : Int) : Int := if irB A = true then fin2 (r1I (A % PP)) else 0
theorem r1I_in (A : Int) : 0 ≤ r1I A ∧ r1I A < PP := by
  have p : (0 : Int) < PP := by decide
  have q : PP ≠ 0 := by decide
  unfold r1I rtR
  split
  · exact ⟨Int.emod_nonneg _ q, Int.emod_lt_of_pos _ p⟩
  · exact ⟨Int.emod_nonneg _ q, Int.emod_lt_of_pos _ p⟩
theorem fin2_in {r : Int} (h : 0 ≤ r ∧ r < PP) : 0 ≤ fin2 r ∧ fin2 r < PP := by
  unfold fin2
  split
  · exact h
  · exact ⟨Int.emod_nonneg _ (by decide), Int.emod_lt_of_pos _ (by decide)⟩
/-- An operation that waits for one alone. -/
theorem late_one {md : Region.Mode} {ops : Array Oper} {x j d p : Nat} (h : (match ops[x]? with | some o => o.after.all (fun e => !Region.binds md e || e.on == p) | none => true) = true) (hw : waits md ops x j d = true) : j = p := by
  unfold waits at hw
  cases ho : ops[x]? with
  | none => rw [ho] at hw; simp at hw
  | some o =>
    rw [ho] at hw h
    cases hj : ops[j]? with
    | none => rw [hj] at hw; simp at hw
    | some oj =>
      rw [hj] at hw
      simp only [Bool.and_eq_true, beq_iff_eq] at hw
      obtain ⟨e, he, hb⟩ := Array.any_eq_true'.1 hw.1
      simp only [Bool.and_eq_true, beq_iff_eq] at hb
      have r := (Array.all_eq_true_iff_forall_mem.1 h) e he
      rw [hb.1, hb.2] at r
      simpa using r
section
variable {ops : Array Oper} {Q : Exit → Act → World → Prop} {a0 : Act} {w : World} {id : Nat}
theorem region_newN_late (ty : TypeId) (k jA jV pA pV jB pB dB : Nat) (o1 o2 : Oper) (F : Nat → Fact) (As : List Int) (b : Value) (hT : textLate .any ops a0.tmps.size k jB = true) (hk1 : ops[k]? = some o1) (hk2 : ops[k + 1]? = some o2) (hd1 : o1.dst = none) (hd2 : o2.dst = some dB)
    (hop1 : o1.op = .store ty (.tmp pA) (.tmp pV)) (hop2 : o2.op = .assign (.tmp pB)) (hs : (Tryd.prog.info? ty).map (·.size) = some (5 * As.length)) (ha : 0 < As.length)
    (qA : decide (jA < k ∧ jA ≠ jB) = true) (qV : decide (jV < k ∧ jV ≠ jB) = true) (wA : writes ops jA pA = true) (wV : writes ops jV pV = true) (wB : writes ops jB pB = true) (FA : F jA = NB w (5 * As.length)) (FV : F jV = EN As) (FB : F jB = Fact.eq b) (hne : dB ≠ pA) (hnB : pB ≠ pA) (hz : decide (dB < a0.tmps.size) = true)
    (sx : ∀ j d v w w', waits .any ops jB j d = true → (F j).p v w → (F j).p v w') (steps : ∀ i, i < k → StepOk Tryd.prog .any ops Q F a0 w i)
    (fin : ∀ (vs : Nat → Value) (q : Nat) (W : World), vs pA = .pointer (some ⟨q, 0, none⟩) → vs dB = b → w.heap.size ≤ q → Below w.heap.size w W → RowN W q 0 As → W.there q 0 (5 * As.length) → Q .normal (puts vs a0 ops.toList) W) :
    (Code.region id ops true).wp Tryd.prog Q a0 w := by
  refine region_late k jB F (by kernel_rfl) hT steps o1 o2 hk1 hk2 pB wB (fun a W => ∃ q, a.tmps.getD pA undef = .pointer (some ⟨q, 0, none⟩) ∧ w.heap.size ≤ q ∧ Below w.heap.size w W ∧ RowN W q 0 As ∧ W.there q 0 (5 * As.length)) ?_ sx (fun v u u' h => by rw [FB] at h ⊢; exact h) ?_ ?_
  · rintro a W W' v n ⟨q, e, l, hw, r, th⟩
    exact ⟨q, by rw [put_off (by simpa using hnB)]; exact e, l, nxt hw n, r.up n, there_up (by omega) th n⟩
  · intro a W hb hw hF K hK
    have h1 := hF jA pA qA wA
    have h2 := hF jV pV qV wV
    rw [FA] at h1
    rw [FV] at h2
    obtain ⟨_, q, eq, th, hq⟩ := h1
    obtain ⟨es, ev, V⟩ := h2
    refine wp_store_mid ty (.tmp pA) (.tmp pV) hop1 q 0 (clN es).toArray eq ev (by show W.there q 0 (clN es).length; rw [clN_len V]; exact th) (by show _ = some (clN es).length; rw [clN_len V]; exact hs) (clN_one es) ?_
    rw [hd1]
    exact hK _ (below_setCells hq _ _ _ hw) ⟨q, eq, hq, below_setCells hq _ _ _ hw, set_rowN th ha V, World.there_setCells th _ _ _⟩
  · rintro a W hb ⟨q, eq, hq, hw, r, th⟩ h3
    rw [FB] at h3
    refine wp_assign pB hop2 h3 ?_
    rw [hd2]
    have hb2 : Based ops a0 (a.put (some dB) b) := by rw [← hd2]; exact hb.put hk2 b
    obtain ⟨vs, hvs⟩ : ∃ vs : Nat → Value, ∀ d, (a.put (some dB) b).tmps.getD d undef = vs d := ⟨_, fun _ => rfl⟩
    rw [puts_late hT rfl hb2 vs hvs]
    refine fin vs q W ?_ ?_ hq hw r th
    · rw [← hvs, put_off (by simpa using hne)]
      exact eq
    · rw [← hvs, put_at (by rw [hb.2.1]; exact of_decide_eq_true hz)]
end
section
variable {ops : Array Oper} {Q : Exit → Act → World → Prop} {md : Region.Mode} {F : Nat → Fact} {a0 : Act} {w0 : World} {i : Nat} {o : Oper} {ts : Array TypeId}
theorem step_root5 (RR : HasR w0) (hi : ops[i]? = some o) (p j : Nat) (A : Int) (hop : o.op = .call { callee := .value (.func 119), args := #[.tmp p], argTypes := ts })
    (hj : waits md ops i j p = true) (hFj : F j = EM A) (hFi : F i = TB [irV A] (irB A)) : StepOk Tryd.prog md ops Q F a0 w0 i := by
  refine step_call hi _ _ ts hop (by kernel_rfl) fun a w _ hw hF => ?_
  have ea := hF j p hj
  rw [hFj] at ea
  obtain ⟨t, e1, L1, V1⟩ := ea
  show Calls Tryd.prog 119 #[a.tmps.getD p undef] w _
  rw [e1]
  refine (root_any w t (Elm.of L1 V1) (RR.up hw)).mono ?_
  rintro r w' ⟨hr, hn⟩
  rw [hFi]
  rw [V1] at hr
  rcases hr with ⟨h1, u, rfl, L, V⟩ | ⟨h1, rfl⟩
  · have hb : irB A = true := decide_eq_true h1
    refine ⟨_, rfl, hn, [u], by rw [hb]; simp [agN, clN, ag5, cl5], ⟨L, ?_⟩, trivial⟩
    unfold irV
    have k := fin2_in (r1I_in (A % PP))
    rw [if_pos hb, V, Int.emod_eq_of_lt k.1 k.2]
  · have hb : irB A = false := decide_eq_false h1
    refine ⟨_, rfl, hn, [z5e], by rw [hb]; simp [agN, clN, ag5, cl5], ⟨z5e_lm, ?_⟩, trivial⟩
    unfold irV
    rw [if_neg (by rw [hb]; simp), z5e_val]
    rfl
end
/-- The square of x that y tells, as the program has it; the x. -/
def pwZ (D A : Int) : Int := (A * A - 1) * (A * A * D + 1) ^ eInv
def pwX (D A : Int) (odd : Bool) : Int := if odd = true then 0 - irV (pwZ D A) else irV (pwZ D A)
set_option maxHeartbeats 4000000 in
theorem pointWith_any (w : World) (e : Nat → Int) (A : Int) (odd : Bool) (he : Is5 e A) (D : Int) (TT : HasTw w 3) (CC : Em5 w 2 0 D) (SS : HasSt w 7) (II : Has3 w 4 12 5 4) (RR : HasR w) :
    Calls Tryd.prog 78 #[ag5 e, .bool odd] w fun r w' => ∃ es, r = .returned (.tuple #[agN es, .bool (irB (pwZ D A))]) ∧ IsN es [pwX D A odd, A] ∧ Below w.heap.size w w' := by
  have EY := em5_new w 56 he
  have m1 : Below w.heap.size w (w.alloc (.cells #[.int .u64 (e 0), .int .u64 (e 1), .int .u64 (e 2), .int .u64 (e 3), .int .u64 (e 4)] 56)) := (Below.refl _ _).alloc (Nat.le_refl _) _
  have s1 : (w.alloc (.cells #[.int .u64 (e 0), .int .u64 (e 1), .int .u64 (e 2), .int .u64 (e 3), .int .u64 (e 4)] 56)).heap.size = w.heap.size + 1 := by simp
  simp only [ag5]
  go_enter Tryd.func78, Tryd.ntmps78
  go_upto_region 1 with fail
  generalize w.alloc (.cells #[.int .u64 (e 0), .int .u64 (e 1), .int .u64 (e 2), .int .u64 (e 3), .int .u64 (e 4)] 56) = wa at *
  have TR : (wa.alloc zA).there wa.heap.size 0 10 := there_new wa _ _
  have mz : Below wa.heap.size wa (wa.alloc zA) := (Below.refl _ _).alloc (Nat.le_refl _) _
  rw [s1] at TR
  have N := nxt m1 mz
  replace EY := EY.up mz
  obtain ⟨wr, hwr⟩ : ∃ W, W = wa.alloc zA := ⟨_, rfl⟩
  rw [← hwr] at TR N EY
  change Code.wp _ _ _ _ (wa.alloc zA)
  rw [← hwr]
  clear hwr m1 mz s1 he
  replace TT := TT.up N
  replace CC := CC.up N
  replace SS := SS.up N
  replace II := II.up N
  replace RR := RR.up N
  refine region_new2 5 3 0 6 12 4 2 7 14 _ _ (fun i => [EM (1), EM (A), EM ((A) * (A)), NB wr 5, NB wr 5].getD i Fact.no) (1) ((A) * (A)) (by kernel_rfl) rfl rfl rfl rfl rfl rfl rfl rfl rfl (by kernel_rfl) (by kernel_rfl) (by kernel_rfl) (by kernel_rfl) rfl rfl rfl rfl (by decide) (fresh_new5 rfl rfl rfl) (fresh_new5 rfl rfl rfl) ?_ ?_
  · intro i hi
    obtain rfl | rfl | rfl | rfl | rfl : i = 0 ∨ i = 1 ∨ i = 2 ∨ i = 3 ∨ i = 4 := by omega
    · exact step_b5 rfl 1 (by omega) rfl rfl
    · exact step_e5 rfl 2 rfl (by kernel_rfl) _ _ rfl _ EY rfl
    · exact step_sq5 rfl 13 1 _ rfl (by kernel_rfl) rfl rfl
    · exact step_new5 rfl rfl rfl
    · exact step_new5 rfl rfl rfl
  intro vs1 q6 q7 W1 v6 v7 l6 l7 n67 n E6 E7
  replace EY := EY.up n
  replace TT := TT.up n
  replace CC := CC.up n
  replace SS := SS.up n
  replace II := II.up n
  replace RR := RR.up n
  replace TR := there_up (by omega) TR n
  replace N := nxt N n
  clear n n67
  obtain ⟨x7, g7⟩ : ∃ e : Int, e = A * A := ⟨_, rfl⟩
  rw [← g7] at E7
  simp only [puts, v6, v7, Act.put, List.setIfInBounds_toArray, List.set_cons_succ, List.set_cons_zero]
  clear v6 v7
  go_upto_region 2 with fail
  refine region_new2 10 8 2 8 17 9 7 9 22 _ _ (fun i => [EM (x7), EM (1), EM ((x7) - (1)), EM (x7), EM (D), EM ((x7) * (D)), EM (1), EM (((x7) * (D)) + (1)), NB W1 5, NB W1 5].getD i Fact.no) ((x7) - (1)) (((x7) * (D)) + (1)) (by kernel_rfl) rfl rfl rfl rfl rfl rfl rfl rfl rfl (by kernel_rfl) (by kernel_rfl) (by kernel_rfl) (by kernel_rfl) rfl rfl rfl rfl (by decide) (fresh_new5 rfl rfl rfl) (fresh_new5 rfl rfl rfl) ?_ ?_
  · intro i hi
    obtain rfl | rfl | rfl | rfl | rfl | rfl | rfl | rfl | rfl | rfl : i = 0 ∨ i = 1 ∨ i = 2 ∨ i = 3 ∨ i = 4 ∨ i = 5 ∨ i = 6 ∨ i = 7 ∨ i = 8 ∨ i = 9 := by omega
    · exact step_e5 rfl 7 rfl (by kernel_rfl) _ _ rfl _ E7 rfl
    · exact step_e5 rfl 6 rfl (by kernel_rfl) _ _ rfl _ E6 rfl
    · exact step_sub5 TT rfl 15 16 0 1 _ _ rfl (by kernel_rfl) (by kernel_rfl) rfl rfl rfl
    · exact step_e5 rfl 7 rfl (by kernel_rfl) _ _ rfl _ E7 rfl
    · exact step_gl5 rfl 2 rfl _ CC rfl
    · exact step_mul5 rfl 18 19 3 4 _ _ rfl (by kernel_rfl) (by kernel_rfl) rfl rfl rfl
    · exact step_e5 rfl 6 rfl (by kernel_rfl) _ _ rfl _ E6 rfl
    · exact step_add5 rfl 20 21 5 6 _ _ rfl (by kernel_rfl) (by kernel_rfl) rfl rfl rfl
    · exact step_new5 rfl rfl rfl
    · exact step_new5 rfl rfl rfl
  intro vs2 q8 q9 W2 v8 v9 l8 l9 n89 n E8 E9
  replace EY := EY.up n
  replace TT := TT.up n
  replace SS := SS.up n
  replace II := II.up n
  replace RR := RR.up n
  replace TR := there_up (by omega) TR n
  replace N := nxt N n
  clear n n89 E6 E7 CC
  obtain ⟨x8, g8⟩ : ∃ e : Int, e = x7 - 1 := ⟨_, rfl⟩
  obtain ⟨x9, g9⟩ : ∃ e : Int, e = x7 * D + 1 := ⟨_, rfl⟩
  rw [← g8] at E8
  rw [← g9] at E9
  have hZ0 : pwZ D A = x8 * x9 ^ eInv := by rw [g8, g9, g7]; rfl
  simp only [puts, v8, v9, Act.put, List.setIfInBounds_toArray, List.set_cons_succ, List.set_cons_zero]
  clear v8 v9 g7 g8 g9
  go_upto_region 3 with fail
  refine region_newN_late 56 9 8 6 10 29 7 30 11 _ _ (fun i => [EM (x8), EM (x9), EM ((x9) ^ eInv), EM ((x8) * ((x9) ^ eInv)), TB [irV ((x8) * ((x9) ^ eInv))] (irB ((x8) * ((x9) ^ eInv))), TB [irV ((x8) * ((x9) ^ eInv))] (irB ((x8) * ((x9) ^ eInv))), EN [irV ((x8) * ((x9) ^ eInv))], Fact.eq (.bool (irB ((x8) * ((x9) ^ eInv)))), NB W2 5].getD i Fact.no) [irV ((x8) * ((x9) ^ eInv))] (.bool (irB ((x8) * ((x9) ^ eInv)))) (by kernel_rfl) rfl rfl rfl rfl rfl rfl i5 (Nat.zero_lt_succ _) rfl rfl (by kernel_rfl) (by kernel_rfl) (by kernel_rfl) rfl rfl rfl (by decide) (by decide) (by kernel_rfl) ?_ ?_ ?_
  · intro j d v u u' hw h
    obtain rfl : j = 5 := late_one (by kernel_rfl) hw
    exact h
  · intro i hi
    obtain rfl | rfl | rfl | rfl | rfl | rfl | rfl | rfl | rfl : i = 0 ∨ i = 1 ∨ i = 2 ∨ i = 3 ∨ i = 4 ∨ i = 5 ∨ i = 6 ∨ i = 7 ∨ i = 8 := by omega
    · exact step_e5 rfl 8 rfl (by kernel_rfl) _ _ rfl _ E8 rfl
    · exact step_e5 rfl 9 rfl (by kernel_rfl) _ _ rfl _ E9 rfl
    · exact step_inv5 SS II rfl 25 1 _ rfl (by kernel_rfl) rfl rfl
    · exact step_mul5 rfl 24 26 0 2 _ _ rfl (by kernel_rfl) (by kernel_rfl) rfl rfl rfl
    · exact step_root5 RR rfl 27 3 _ rfl (by kernel_rfl) rfl rfl
    · exact step_move rfl 28 4 (by exact Or.inl rfl) (by kernel_rfl) rfl
    · exact step_tx0 rfl 23 5 _ _ rfl (by kernel_rfl) rfl rfl
    · exact step_tx1 rfl 23 5 _ _ rfl (by kernel_rfl) rfl rfl
    · exact step_new5 rfl rfl rfl
  intro vs3 q10 W3 v10 b11 l10 n R10 T10
  have z3 := there_lt (by omega) TR
  replace EY := EY.up n
  replace TT := TT.up n
  replace TR := there_up (by omega) TR n
  have z2 := N.size
  replace N := nxt N n
  clear n E8 E9 SS II RR
  have E10 := R10.at0
  clear R10
  obtain ⟨Z, gZ⟩ : ∃ e : Int, e = x8 * x9 ^ eInv := ⟨_, rfl⟩
  rw [← gZ] at b11 E10 hZ0
  have hZ := hide hZ0
  clear gZ hZ0
  obtain ⟨x10, g10⟩ : ∃ e : Int, e = irV Z := ⟨_, rfl⟩
  rw [← g10] at E10
  have hW : q10 ≠ w.heap.size ∧ q10 ≠ w.heap.size + 1 := ⟨by omega, by omega⟩
  simp only [puts, v10, b11, Act.put, List.setIfInBounds_toArray, List.set_cons_succ, List.set_cons_zero]
  clear v10 b11
  cases odd with
  | false =>
    have hP := hide (show pwX D A false = x10 by unfold pwX; rw [hZ.out, ← g10]; rfl)
    clear g10
    obtain ⟨WW, hWW⟩ : ∃ W, W = W3 := ⟨_, rfl⟩
    rw [← hWW] at N TR E10 EY TT T10 ⊢
    clear hWW
    go_upto_region 6 with fail
    refine region_putN_asg 58 4 2 4 36 3 37 5 _ _ (fun i => [EM (x10), EM (A), EN [x10, A], Fact.eq (.bool (irB Z))].getD i Fact.no) [x10, A] (.bool (irB Z)) _ (by kernel_rfl) rfl rfl rfl rfl rfl rfl iA (Nat.zero_lt_succ _) (by kernel_rfl) rfl TR rfl rfl (by kernel_rfl) (by kernel_rfl) rfl rfl (by kernel_rfl) ?_ ?_
    · intro i hi
      obtain rfl | rfl | rfl | rfl : i = 0 ∨ i = 1 ∨ i = 2 ∨ i = 3 := by omega
      · exact step_e5 rfl 10 rfl (by kernel_rfl) _ _ rfl _ E10 rfl
      · exact step_e5 rfl 2 rfl (by kernel_rfl) _ _ rfl _ EY rfl
      · exact step_bA rfl 34 35 0 1 _ _ rfl (by kernel_rfl) (by kernel_rfl) rfl rfl rfl
      · exact step_mv rfl 11 rfl (by kernel_rfl) rfl rfl
    intro vs6 Wa Wb vb na bq RL nb
    have NS := nb w w.heap.size (nxt N na) (by omega)
    simp only [puts, vb, Act.put, List.setIfInBounds_toArray, List.set_cons_succ, List.set_cons_zero]
    clear vb bq nb na N TR E10 EY
    go_wp2
    obtain ⟨es, rg, _, ht⟩ := RL
    have lz := clN_len ht
    obtain ⟨fs, hfs⟩ := uA
    exact bodyPost_ret (v := .tuple #[agN es, .bool (irB Z)]) (results_cell_slot Tryd.results78 _ _ (w.heap.size + 1) (clN es) _ rfl rfl rg hfs rfl (by rw [lz]; exact iA)) rfl ⟨es, by rw [hZ.out], by rw [hP.out]; exact ht, NS⟩
  | true =>
    have hP := hide (show pwX D A true = 0 - x10 by unfold pwX; rw [hZ.out, ← g10]; rfl)
    clear g10
    go_upto_region 5 with fail
    refine region_put5 2 1 10 33 _ (fun i => [EM (x10), EM (0 - (x10))].getD i Fact.no) (0 - (x10)) _ (by kernel_rfl) rfl rfl rfl (by kernel_rfl) rfl T10 (by kernel_rfl) rfl ?_ ?_
    · intro i hi
      obtain rfl | rfl : i = 0 ∨ i = 1 := by omega
      · exact step_e5 rfl 10 rfl (by kernel_rfl) _ _ rfl _ E10 rfl
      · exact step_ngl TT rfl 32 0 _ rfl (by kernel_rfl) rfl rfl
    intro vs5 Wx WW n bq E10' nb
    replace EY := EY.but bq (Ne.symm hW.1)
    replace TR := there_but (by omega) TR bq (Ne.symm hW.2)
    have N' := nb w w.heap.size (nxt N n) (by omega)
    clear N n bq nb E10 T10
    have N := N'
    have E10 := E10'
    clear N' E10'
    simp only [puts, Act.put, List.setIfInBounds_toArray, List.set_cons_succ, List.set_cons_zero]
    go_upto_region 6 with fail
    refine region_putN_asg 58 4 2 4 36 3 37 5 _ _ (fun i => [EM (0 - x10), EM (A), EN [0 - x10, A], Fact.eq (.bool (irB Z))].getD i Fact.no) [0 - x10, A] (.bool (irB Z)) _ (by kernel_rfl) rfl rfl rfl rfl rfl rfl iA (Nat.zero_lt_succ _) (by kernel_rfl) rfl TR rfl rfl (by kernel_rfl) (by kernel_rfl) rfl rfl (by kernel_rfl) ?_ ?_
    · intro i hi
      obtain rfl | rfl | rfl | rfl : i = 0 ∨ i = 1 ∨ i = 2 ∨ i = 3 := by omega
      · exact step_e5 rfl 10 rfl (by kernel_rfl) _ _ rfl _ E10 rfl
      · exact step_e5 rfl 2 rfl (by kernel_rfl) _ _ rfl _ EY rfl
      · exact step_bA rfl 34 35 0 1 _ _ rfl (by kernel_rfl) (by kernel_rfl) rfl rfl rfl
      · exact step_mv rfl 11 rfl (by kernel_rfl) rfl rfl
    intro vs6 Wa Wb vb na bq RL nb
    have NS := nb w w.heap.size (nxt N na) (by omega)
    simp only [puts, vb, Act.put, List.setIfInBounds_toArray, List.set_cons_succ, List.set_cons_zero]
    clear vb bq nb na N TR E10 EY
    go_wp2
    obtain ⟨es, rg, _, ht⟩ := RL
    have lz := clN_len ht
    obtain ⟨fs, hfs⟩ := uA
    exact bodyPost_ret (v := .tuple #[agN es, .bool (irB Z)]) (results_cell_slot Tryd.results78 _ _ (w.heap.size + 1) (clN es) _ rfl rfl rg hfs rfl (by rw [lz]; exact iA)) rfl ⟨es, by rw [hZ.out], by rw [hP.out]; exact ht, NS⟩
end Go.Proofs.YthapcapiiknjdaaDoor

/-
  The form of a point as bytes: the program's form, its bytes, readForm.
-/
namespace Go.Proofs.YthapcapiiknjdaaDoor
set_option maxRecDepth 100000
open Go Go.RowKit

/-- Four words and a truth. -/
def fmC (W : Nat → Int) (b : Bool) : List Value := [.int .u64 (W 0), .int .u64 (W 1), .int .u64 (W 2), .int .u64 (W 3), .bool b]
def FmV (W : Nat → Int) (b : Bool) : Value := .agg (fmC W b).toArray
def FM (v : Int) (b : Bool) : Fact := ⟨fun x _ => ∃ W, x = FmV W b ∧ W4 W ∧ wval W = v, fun _ h => h⟩
def WF (v : Int) : Fact := ⟨fun x _ => ∃ W, x = ag4 W ∧ W4 W ∧ wval W = v, fun _ h => h⟩
theorem buF (W : Nat → Int) (b : Bool) (w : World) : (Instr.build 70 #[(0, ag4 W), (1, .bool b)]).run Tryd.prog w = .ok (FmV W b) w := by kernel_rfl
theorem iF : (Tryd.prog.info? 70).map (·.size) = some 5 := by kernel_rfl
theorem uF : ∃ fs, Tryd.prog.underlying 70 = some (.struct fs) := ⟨_, Tryd.underlying70⟩
theorem fmC_one (W : Nat → Int) (b : Bool) : (fmC W b).toArray.all (·.oneCell') = true := by simp [fmC, Value.oneCell']
section
variable {ops : Array Oper} {Q : Exit → Act → World → Prop} {md : Region.Mode} {F : Nat → Fact} {a0 : Act} {w0 : World} {i : Nat} {o : Oper} {ts : Array TypeId}
theorem step_words (hi : ops[i]? = some o) (p j : Nat) (A : Int) (hop : o.op = .call { callee := .value (.func 102), args := #[.tmp p], argTypes := ts })
    (hj : waits md ops i j p = true) (hFj : F j = EM A) (hFi : F i = WF (A % PP)) : StepOk Tryd.prog md ops Q F a0 w0 i := by
  refine step_call hi _ _ ts hop (by kernel_rfl) fun a w _ hw hF => ?_
  have ea := hF j p hj
  rw [hFj] at ea
  obtain ⟨t, e1, L1, V1⟩ := ea
  show Calls Tryd.prog 102 #[a.tmps.getD p undef] w _
  rw [e1]
  refine (words_any w t L1).mono ?_
  rintro r w' ⟨rfl, hn⟩
  rw [hFi]
  have k := lw_ok L1
  exact ⟨_, rfl, hn, lw t, rfl, k.2, k.1.trans V1⟩
theorem step_even (hi : ops[i]? = some o) (p j : Nat) (A : Int) (hop : o.op = .call { callee := .value (.func 103), args := #[.tmp p], argTypes := ts })
    (hj : waits md ops i j p = true) (hFj : F j = EM A) (hFi : F i = Fact.eq (.bool (decide (A % PP % 2 = 0)))) : StepOk Tryd.prog md ops Q F a0 w0 i := by
  refine step_call hi _ _ ts hop (by kernel_rfl) fun a w _ hw hF => ?_
  have ea := hF j p hj
  rw [hFj] at ea
  obtain ⟨t, e1, L1, V1⟩ := ea
  show Calls Tryd.prog 103 #[a.tmps.getD p undef] w _
  rw [e1]
  refine (isEven_any w t L1).mono ?_
  rintro r w' ⟨rfl, hn⟩
  rw [hFi, V1]
  exact ⟨_, rfl, hn, rfl⟩
theorem step_bF (hi : ops[i]? = some o) (p q j k : Nat) (v : Int) (b : Bool) (hop : o.op = .build 70 #[(0, .tmp p), (1, .tmp q)])
    (hj : waits md ops i j p = true) (hk : waits md ops i k q = true) (hFj : F j = WF v) (hFk : F k = Fact.eq (.bool b)) (hFi : F i = FM v b) : StepOk Tryd.prog md ops Q F a0 w0 i := by
  refine step_pure hi fun a w _ _ hf => ?_
  have h1 := hf j p hj
  have h2 := hf k q hk
  rw [hFj] at h1
  rw [hFk] at h2
  obtain ⟨W, e1, X⟩ := h1
  refine ⟨FmV W b, ?_, by rw [hFi]; exact ⟨W, rfl, X⟩⟩
  have g1 : a.eval (.tmp p) = ag4 W := e1
  have g2 : a.eval (.tmp q) = .bool b := h2
  have g : (#[(0, Operand.tmp p), (1, Operand.tmp q)].map fun (n, x) => (n, a.eval x)) = #[(0, ag4 W), (1, .bool b)] := by simp [g1, g2]
  simp only [execOp, hop, g]
  rw [Sem.run_bind, buF]
  rfl
end
section
variable {ops : Array Oper} {Q : Exit → Act → World → Prop} {a0 : Act} {w : World} {id : Nat} {draw : Bool}
theorem region_putF (k jV pD pV : Nat) (o : Oper) (F : Nat → Fact) (v : Int) (b : Bool) (q : Nat) (hT : textOk .any ops a0.tmps.size k = true) (hk : ops[k]? = some o) (hd : o.dst = none) (hop : o.op = .store 70 (.tmp pD) (.tmp pV))
    (hp : apart ops pD = true) (h0 : a0.tmps.getD pD undef = .pointer (some ⟨q, 0, none⟩)) (ht : w.there q 0 5) (wV : writes ops jV pV = true) (FV : F jV = FM v b) (steps : ∀ i, i < k → StepOk Tryd.prog .any ops Q F a0 w i)
    (fin : ∀ (vs : Nat → Value) (W W' : World) (u : Nat → Int), Below w.heap.size w W → W'.rangeAt q 0 (fmC u b) → W4 u → wval u = v → (∀ (w1 : World) (B : Nat), Below B w1 W → B ≤ q → Below B w1 W') → Q .normal (puts vs a0 ops.toList) W') :
    (Code.region id ops draw).wp Tryd.prog Q a0 w := by
  refine region_store k o F (by kernel_rfl) hT hk hd steps fun a W hb hw hF => ?_
  have h2 := hF jV pV wV
  rw [FV] at h2
  obtain ⟨u, ev, hu, hv⟩ := h2
  have th := there_up (by omega) ht hw
  refine wp_store_mid 70 (.tmp pD) (.tmp pV) hop q 0 (fmC u b).toArray ((based_at hb pD hp).trans h0) ev th iF (fmC_one u b) ?_
  obtain ⟨vs, hvs⟩ : ∃ vs : Nat → Value, ∀ d, a.tmps.getD d undef = vs d := ⟨_, fun _ => rfl⟩
  rw [hd]
  show Q .normal a _
  rw [puts_of hT rfl hb vs hvs]
  exact fin vs W _ u hw (World.rangeAt_setCells_same W q 0 _ th) hu hv (fun w1 B n hB => below_setCells hB _ _ _ n)
end
abbrev zF : Obj := .cells #[.int .u64 0, .int .u64 0, .int .u64 0, .int .u64 0, .bool false] 70
set_option maxHeartbeats 2000000 in
theorem form_any (w : World) (es : List (Nat → Int)) (X Y : Int) (hes : IsN es [X, Y]) :
    Calls Tryd.prog 64 #[agN es] w fun r w' => ∃ u, r = .returned (FmV u (!decide (X % PP % 2 = 0))) ∧ W4 u ∧ wval u = Y % PP ∧ Below w.heap.size w w' := by
  show Calls Tryd.prog 64 #[.agg (clN es).toArray] w _
  have H0 := rowN_new w 58 hes
  have m0 : Below w.heap.size w (w.alloc (.cells (clN es).toArray 58)) := (Below.refl _ _).alloc (Nat.le_refl _) _
  have s0 : (w.alloc (.cells (clN es).toArray 58)).heap.size = w.heap.size + 1 := by simp
  obtain ⟨V0, hV0⟩ : ∃ V, V = (clN es).toArray := ⟨_, rfl⟩
  rw [← hV0] at H0 m0 s0 ⊢
  clear hV0 hes
  go_enter Tryd.func64, Tryd.ntmps64
  go_upto_region 1 with fail
  generalize w.alloc (.cells V0 58) = wa0 at *
  have TR : (wa0.alloc zF).there wa0.heap.size 0 5 := there_new wa0 _ _
  have mz : Below wa0.heap.size wa0 (wa0.alloc zF) := (Below.refl _ _).alloc (Nat.le_refl _) _
  rw [s0] at TR
  have P0 := H0.up mz
  have N := nxt m0 mz
  clear H0 m0 s0 mz
  obtain ⟨wr, hwr⟩ : ∃ W, W = wa0.alloc zF := ⟨_, rfl⟩
  rw [← hwr] at TR N P0
  change Code.wp _ _ _ _ (wa0.alloc zF)
  rw [← hwr]
  clear hwr
  refine region_putF 8 7 2 10 _ (fun i => [Fact.eq (.pointer (some ⟨w.heap.size, 5, none⟩)), EM (Y), WF (Y % PP), Fact.eq (.pointer (some ⟨w.heap.size, 0, none⟩)), EM (X), Fact.eq (.bool (decide (X % PP % 2 = 0))), Fact.eq (.bool (!(decide (X % PP % 2 = 0)))), FM (Y % PP) (!decide (X % PP % 2 = 0))].getD i Fact.no) (Y % PP) (!decide (X % PP % 2 = 0)) _ (by kernel_rfl) rfl rfl rfl (by kernel_rfl) rfl TR (by kernel_rfl) rfl ?_ ?_
  · intro i hi
    obtain rfl | rfl | rfl | rfl | rfl | rfl | rfl | rfl : i = 0 ∨ i = 1 ∨ i = 2 ∨ i = 3 ∨ i = 4 ∨ i = 5 ∨ i = 6 ∨ i = 7 := by omega
    · exact step_fld rfl 58 1 1 rfl (by kernel_rfl) _ _ rfl (fyA _) rfl
    · exact step_e5f rfl 3 0 rfl (by kernel_rfl) _ _ rfl _ P0.tail.at0 rfl
    · exact step_words rfl 4 1 _ rfl (by kernel_rfl) rfl rfl
    · exact step_fld rfl 58 1 0 rfl (by kernel_rfl) _ _ rfl (fxA _) rfl
    · exact step_e5f rfl 6 3 rfl (by kernel_rfl) _ _ rfl _ P0.at0 rfl
    · exact step_even rfl 7 4 _ rfl (by kernel_rfl) rfl rfl
    · exact step_notb rfl 8 5 rfl (by kernel_rfl) rfl rfl
    · exact step_bF rfl 5 9 2 6 _ _ rfl (by kernel_rfl) (by kernel_rfl) rfl rfl rfl
  intro vs W W' u n rg hu hv nb
  have z := N.size
  have NS := nb w w.heap.size (nxt N n) (by omega)
  simp only [puts, Act.put, List.setIfInBounds_toArray, List.set_cons_succ, List.set_cons_zero]
  clear n nb N TR P0
  obtain ⟨fs, hfs⟩ := uF
  go_wp2
  exact bodyPost_ret (v := FmV u (!decide (X % PP % 2 = 0))) (results_cell_mid Tryd.results64 _ _ (w.heap.size + 1) (fmC u _) _ rfl rg hfs rfl iF) rfl ⟨u, rfl, hu, hv, NS⟩
theorem or63 (x : Int) (h0 : 0 ≤ x) (h1 : x < 9223372036854775808) : bits BinOp.or IntKind.u64 x 9223372036854775808 = x + 9223372036854775808 := by
  have h := or64 x 1 63 9223372036854775808 (by decide) h0 h1 (by omega) (by omega) (by omega)
  simpa [Int.add_comm] using h
/-- The words with the mark of an odd x. -/
def mkW (u : Nat → Int) (b : Bool) (j : Nat) : Int := if j = 3 ∧ b = true then u 3 + 9223372036854775808 else u j
set_option maxHeartbeats 4000000 in
theorem formBytes_any (w : World) (u : Nat → Int) (b : Bool) (hu : W4 u) (h3 : u 3 < 9223372036854775808) :
    Calls Tryd.prog 65 #[FmV u b] w fun r w' => NewRow w.heap.size w' r .u8 (fill (byt (wval (mkW u b))) 32) ∧ Below w.heap.size w w' := by
  have b3 := hu 3 (by omega)
  have e3 := or63 (u 3) b3.1 h3
  have hM : W4 (mkW u b) := fun j hj => by
    have := hu j hj
    unfold mkW
    split
    · rename_i c
      obtain ⟨rfl, _⟩ := c
      omega
    · exact this
  have WB := hide (fun w => wordsBytes_any w (mkW u b) hM)
  show Calls Tryd.prog 65 #[.agg #[.int .u64 (u 0), .int .u64 (u 1), .int .u64 (u 2), .int .u64 (u 3), .bool b]] w _
  have al1 : Below w.heap.size w (w.alloc (.cells #[.int .u64 (u 0), .int .u64 (u 1), .int .u64 (u 2), .int .u64 (u 3), .bool b] 70)) := (Below.refl _ _).alloc (Nat.le_refl _) _
  cases b
  all_goals
    go_enter Tryd.func65, Tryd.ntmps65
    go_wp2_with fail
    refine (WB.out _).mono ?_
    rintro r w3 ⟨rfl, B3, n3⟩
    have N3 := nxt (al1.alloc (by simp) _) n3
    rw [show ∀ a b : Obj, ((w.alloc a).alloc b).heap.size = w.heap.size + 1 + 1 from fun a b => by simp] at B3
    have z := B3.lt
    clear WB n3 hM
    go_wp2
    go_ret
    have l32 : ∀ f : Nat → Int, (fill f 32).length = 32 := fun f => fill_len f 32
    exact ⟨⟨_, 32, _, by rw [l32]; rfl, B3.own0, (fun h => by cases h), by rw [l32]; omega, by omega⟩, N3⟩
/-- The words without the highest bit. -/
def loW (u : Nat → Int) (j : Nat) : Int := if j = 3 then u 3 % 9223372036854775808 else u j
theorem and63 (x : Int) (h0 : 0 ≤ x) (h1 : x < 18446744073709551616) : bits BinOp.and IntKind.u64 x 9223372036854775808 = if 9223372036854775808 ≤ x then 9223372036854775808 else 0 := by
  obtain ⟨m, rfl⟩ := Int.eq_ofNat_of_zero_le h0
  have h := bits_and_u64_nat m 9223372036854775808 (by omega) (by omega)
  have e : m &&& 9223372036854775808 = if 9223372036854775808 ≤ m then 9223372036854775808 else 0 := by
    have k : (9223372036854775808 : Nat) = 2 ^ 63 := by decide
    have hm : m < 2 ^ 64 := by omega
    rw [k]
    apply Nat.eq_of_testBit_eq
    intro i
    rw [Nat.testBit_and, Nat.testBit_two_pow]
    by_cases c : 2 ^ 63 ≤ m
    · rw [if_pos c, Nat.testBit_two_pow]
      by_cases d : 63 = i
      · subst d
        have : m / 2 ^ 63 = 1 := by omega
        rw [Nat.testBit_eq_decide_div_mod_eq, this]
        simp
      · simp [d]
    · rw [if_neg c, Nat.zero_testBit]
      by_cases d : 63 = i
      · subst d
        have : m / 2 ^ 63 = 0 := by omega
        rw [Nat.testBit_eq_decide_div_mod_eq, this]
        simp
      · simp [d]
  rw [e] at h
  refine (by simpa using h : _ = _).trans ?_
  by_cases c : 9223372036854775808 ≤ m
  · rw [if_pos c, if_pos (by omega)]
    rfl
  · rw [if_neg c, if_neg (by omega)]
    rfl
set_option maxHeartbeats 4000000 in
theorem readForm_any (w : World) (g : Nat) (a : Option Addr) (cap : Nat) (xs : List Int) (hr : Rd w g a .u8 xs) (hb : Byt xs) (hl : xs.length = 32) :
    Calls Tryd.prog 77 #[.slice a 32 cap] w fun r w' => ∃ u, r = .returned (FmV (loW u) (decide (9223372036854775808 ≤ u 3))) ∧ W4 u ∧ u = wv (fun j => xs.getD j 0) 32 ∧ Below w.heap.size w w' := by
  have al1 : Below w.heap.size w (w.alloc zF) := (Below.refl _ _).alloc (Nat.le_refl _) _
  have s1 : (w.alloc zF).heap.size = w.heap.size + 1 := by simp
  have TR : (w.alloc zF).there w.heap.size 0 5 := there_new w _ _
  have RW' := hide (fun w' n => readWords_any w' g a cap xs (hr.up n) hb hl)
  have hW : W4 (wv (fun j => xs.getD j 0) 32) := fun j _ => wv_lt hb 32 j
  clear hl
  go_enter Tryd.func77, Tryd.ntmps77
  go_wp2_with fail
  change Calls _ _ _ (w.alloc zF) _
  generalize w.alloc zF = wa at *
  refine (RW'.out wa al1).mono ?_
  rintro r w1 ⟨rfl, n1⟩
  obtain ⟨u, hu⟩ : ∃ u, u = wv (fun j => xs.getD j 0) 32 := ⟨_, rfl⟩
  rw [← hu] at hW ⊢
  have hU := hide hu
  clear hu RW' hr hb
  have b3 := hW 3 (by omega)
  have e1 := and63 (u 3) b3.1 b3.2
  have e2 := and_not63 (u 3) b3.1 b3.2
  have N := nxt al1 n1
  replace TR := there_up (by omega) TR n1
  have z1 := N.size
  have z2 := there_lt (by omega) TR
  clear n1 al1 s1
  obtain ⟨x0, c0⟩ := Option.isSome_iff_exists.1 (TR 0 (by omega)).1
  obtain ⟨x1, c1⟩ := Option.isSome_iff_exists.1 (TR 1 (by omega)).1
  obtain ⟨x2, c2⟩ := Option.isSome_iff_exists.1 (TR 2 (by omega)).1
  obtain ⟨x3, c3⟩ := Option.isSome_iff_exists.1 (TR 3 (by omega)).1
  obtain ⟨x4, c4⟩ := Option.isSome_iff_exists.1 (TR 4 (by omega)).1
  have f0 := (TR 0 (by omega)).2
  have f1 := (TR 1 (by omega)).2
  have f2 := (TR 2 (by omega)).2
  have f3 := (TR 3 (by omega)).2
  have f4 := (TR 4 (by omega)).2
  simp only [Nat.zero_add] at c0 c1 c2 c3 c4 f0 f1 f2 f3 f4
  obtain ⟨fs, hfs⟩ := uF
  have RG : ∀ (b : Bool) (ob : Obj), ((w1.setCells w.heap.size 0 (fmC (loW u) b)).alloc ob).rangeAt w.heap.size 0 (fmC (loW u) b) := fun b ob j v hv => by
    have rg := World.rangeAt_setCells_same w1 w.heap.size 0 (fmC (loW u) b) TR
    have n : Below (w1.setCells w.heap.size 0 (fmC (loW u) b)).heap.size (w1.setCells w.heap.size 0 (fmC (loW u) b)) ((w1.setCells w.heap.size 0 (fmC (loW u) b)).alloc ob) := (Below.refl _ _).alloc (Nat.le_refl _) _
    exact (n.cell (p := ⟨w.heap.size, 0 + j, none⟩) (by rw [heap_size_setCells]; exact z2)).trans (rg j v hv)
  have RG' := hide RG
  clear TR RG
  by_cases c : 9223372036854775808 ≤ u 3
  · have D := hide (decide_eq_true c)
    simp only [c, if_true] at e1
    simp only [ag4]
    go_wp2
    exact bodyPost_ret (v := FmV (loW u) true) (results_cell_mid Tryd.results77 _ _ w.heap.size (fmC (loW u) true) _ rfl (RG'.out true _) hfs rfl iF) rfl ⟨u, by rw [D.out], hW, hU.out, (below_set5 N (Nat.le_refl _) _ _ _ _ _).alloc (by simp; omega) _⟩
  · have D := hide (decide_eq_false c)
    simp only [c, if_false] at e1
    simp only [ag4]
    go_wp2
    exact bodyPost_ret (v := FmV (loW u) false) (results_cell_mid Tryd.results77 _ _ w.heap.size (fmC (loW u) false) _ rfl (RG'.out false _) hfs rfl iF) rfl ⟨u, by rw [D.out], hW, hU.out, (below_set5 N (Nat.le_refl _) _ _ _ _ _).alloc (by simp; omega) _⟩
end Go.Proofs.YthapcapiiknjdaaDoor

/-
  The program's PointEncode.
-/
namespace Go.Proofs.YthapcapiiknjdaaDoor
set_option maxRecDepth 100000
open Go Go.RowKit

theorem wval_top {u : Nat → Int} (h : W4 u) (hv : wval u < 57896044618658097711785492504343953926634992332820282019728792003956564819968) : u 3 < 9223372036854775808 := by
  have h0 := h 0 (by omega); have h1 := h 1 (by omega); have h2 := h 2 (by omega); have h3 := h 3 (by omega)
  unfold wval at hv
  omega
theorem wval_mk {u : Nat → Int} (b : Bool) : wval (mkW u b) = wval u + if b = true then 57896044618658097711785492504343953926634992332820282019728792003956564819968 else 0 := by
  unfold wval mkW
  cases b <;> simp <;> omega
theorem PP_lt : PP < 57896044618658097711785492504343953926634992332820282019728792003956564819968 := by decide
section
variable {ops : Array Oper} {Q : Exit → Act → World → Prop} {md : Region.Mode} {F : Nat → Fact} {a0 : Act} {w0 : World} {i : Nat} {o : Oper} {ts : Array TypeId}
theorem step_form (hi : ops[i]? = some o) (p j : Nat) (X Y : Int) (hop : o.op = .call { callee := .value (.func 64), args := #[.tmp p], argTypes := ts })
    (hj : waits md ops i j p = true) (hFj : F j = EN [X, Y]) (hFi : F i = FM (Y % PP) (!decide (X % PP % 2 = 0))) : StepOk Tryd.prog md ops Q F a0 w0 i := by
  refine step_call hi _ _ ts hop (by kernel_rfl) fun a w _ hw hF => ?_
  have ea := hF j p hj
  rw [hFj] at ea
  obtain ⟨t, e1, L1⟩ := ea
  show Calls Tryd.prog 64 #[a.tmps.getD p undef] w _
  rw [e1]
  refine (form_any w t X Y L1).mono ?_
  rintro r w' ⟨u, rfl, h1, h2, hn⟩
  rw [hFi]
  exact ⟨_, rfl, hn, u, rfl, h1, h2⟩
theorem step_fby (hi : ops[i]? = some o) (p j : Nat) (Y : Int) (b : Bool) (hop : o.op = .call { callee := .value (.func 65), args := #[.tmp p], argTypes := ts })
    (hj : waits md ops i j p = true) (hFj : F j = FM (Y % PP) b) (hFi : F i = RN w0 (fun u9 => u9 = fill (byt (Y % PP + if b = true then 57896044618658097711785492504343953926634992332820282019728792003956564819968 else 0)) 32)) : StepOk Tryd.prog md ops Q F a0 w0 i := by
  refine step_call hi _ _ ts hop (by kernel_rfl) fun a w _ hw hF => ?_
  have ea := hF j p hj
  rw [hFj] at ea
  obtain ⟨u, e1, h1, h2⟩ := ea
  show Calls Tryd.prog 65 #[a.tmps.getD p undef] w _
  rw [e1]
  have hlt : wval u < 57896044618658097711785492504343953926634992332820282019728792003956564819968 := by
    rw [h2]
    exact Int.lt_trans (Int.emod_lt_of_pos _ (by decide)) PP_lt
  refine (formBytes_any w u b h1 (wval_top h1 hlt)).mono ?_
  rintro r w' ⟨⟨a', c, g, rfl, ow, k1, k2, hg⟩, hn⟩
  rw [wval_mk, h2] at ow k2 ⊢
  rw [hFi]
  have z := hw.size
  exact ⟨_, rfl, hn, _, a', c, g, rfl, ow, by omega, rfl, k1, k2⟩
end
/-- The form of a point, as bytes. -/
def enA (D : Int) (xs ys : List Int) : List Int := if rpB D xs ys = true then fill (byt (rpY xs ys % PP + if (!decide (rpX xs ys % PP % 2 = 0)) = true then 57896044618658097711785492504343953926634992332820282019728792003956564819968 else 0)) 32 else []
set_option maxHeartbeats 2000000 in
theorem implEncode_any (w : World) (g g' : Nat) (a a' : Option Addr) (c c' : Nat) (xs ys : List Int) (hx : Rd w g a .u8 xs) (hy : Rd w g' a' .u8 ys) (bx : Byt xs) (by' : Byt ys) (D : Int) (TT : HasTw w 3) (CC : Em5 w 2 0 D) :
    Calls Tryd.prog 26 #[.agg #[.slice a xs.length c, .slice a' ys.length c']] w fun r w' => NewRow w.heap.size w' r .u8 (enA D xs ys) ∧ Below w.heap.size w w' := by
  have T := two_cells w (.slice a xs.length c) (.slice a' ys.length c') 24
  have m1 : Below w.heap.size w (w.alloc (.cells #[.slice a xs.length c, .slice a' ys.length c'] 24)) := (Below.refl _ _).alloc (Nat.le_refl _) _
  have s1 : (w.alloc (.cells #[.slice a xs.length c, .slice a' ys.length c'] 24)).heap.size = w.heap.size + 1 := by simp
  have RX : RdOk w a xs := ⟨g, hx, bx⟩
  have RY : RdOk w a' ys := ⟨g', hy, by'⟩
  obtain ⟨CX, CY⟩ := T
  clear hx hy bx by'
  go_enter Tryd.func26, Tryd.ntmps26
  go_upto_region 1 with fail
  generalize w.alloc (.cells #[.slice a xs.length c, .slice a' ys.length c'] 24) = wa at *
  have N := m1
  clear m1 s1
  replace RX := RX.up N
  replace RY := RY.up N
  replace TT := TT.up N
  replace CC := CC.up N
  refine region_newN_asg 58 6 5 3 3 8 4 9 4 _ _ (fun i => [Fact.eq (.agg #[.slice a xs.length c, .slice a' ys.length c']), TB [rpX xs ys, rpY xs ys] (rpB D xs ys), TB [rpX xs ys, rpY xs ys] (rpB D xs ys), EN [rpX xs ys, rpY xs ys], Fact.eq (.bool (rpB D xs ys)), NB wa 10].getD i Fact.no) [rpX xs ys, rpY xs ys] (.bool (rpB D xs ys)) (by kernel_rfl) rfl rfl rfl rfl rfl rfl iA (Nat.zero_lt_succ _) rfl rfl rfl (by kernel_rfl) (by kernel_rfl) (by kernel_rfl) rfl rfl rfl (by decide) (by kernel_rfl) ?_ ?_
  · intro i hi
    obtain rfl | rfl | rfl | rfl | rfl | rfl : i = 0 ∨ i = 1 ∨ i = 2 ∨ i = 3 ∨ i = 4 ∨ i = 5 := by omega
    · exact step_lP rfl 1 rfl (by kernel_rfl) _ rfl _ _ CX CY rfl
    · exact step_rp TT CC rfl 6 0 rfl (by kernel_rfl) RX RY rfl rfl
    · exact step_move rfl 7 1 (by exact Or.inl rfl) (by kernel_rfl) rfl
    · exact step_tx0 rfl 5 2 _ _ rfl (by kernel_rfl) rfl rfl
    · exact step_tx1 rfl 5 2 _ _ rfl (by kernel_rfl) rfl rfl
    · exact step_newA rfl rfl rfl
  intro vs1 q3 W1 v3 b4 l3 n E3 T3
  replace RX := RX.up n
  replace RY := RY.up n
  replace TT := TT.up n
  replace CC := CC.up n
  replace CX := (n.cell (block_lt_of_cell CX)).trans CX
  replace CY := (n.cell (block_lt_of_cell CY)).trans CY
  replace N := nxt N n
  clear n T3 l3
  obtain ⟨ok1, hok1⟩ : ∃ b, b = rpB D xs ys := ⟨_, rfl⟩
  rw [← hok1] at b4
  have HK1 := hide hok1
  clear hok1
  simp only [puts, v3, b4, Act.put, List.setIfInBounds_toArray, List.set_cons_succ, List.set_cons_zero]
  clear v3 b4
  cases ok1 with
  | false =>
    have e1 : enA D xs ys = [] := by unfold enA; rw [← HK1.out]; rfl
    clear RX RY TT CC E3 CX CY
    go_wp2
    go_ret
    exact ⟨by rw [e1]; exact ⟨none, 0, w.heap.size, rfl, Own.nil _ _ _ _, fun _ => rfl, Nat.le_refl _, Nat.le_refl _⟩, N⟩
  | true =>
    have e1 := hide (show enA D xs ys = fill (byt (rpY xs ys % PP + if (!decide (rpX xs ys % PP % 2 = 0)) = true then 57896044618658097711785492504343953926634992332820282019728792003956564819968 else 0)) 32 by unfold enA; rw [if_pos HK1.out.symm])
    go_upto_region 4 with fail
    refine region_end 4 (fun i => [EN [rpX xs ys, rpY xs ys], FM (rpY xs ys % PP) (!decide (rpX xs ys % PP % 2 = 0)), RN W1 (fun u9 => u9 = fill (byt (rpY xs ys % PP + if (!decide (rpX xs ys % PP % 2 = 0)) = true then 57896044618658097711785492504343953926634992332820282019728792003956564819968 else 0)) 32), RN W1 (fun u9 => u9 = fill (byt (rpY xs ys % PP + if (!decide (rpX xs ys % PP % 2 = 0)) = true then 57896044618658097711785492504343953926634992332820282019728792003956564819968 else 0)) 32)].getD i Fact.no) (by kernel_rfl) (by kernel_rfl) rfl ?_ ?_
    · intro i hi
      obtain rfl | rfl | rfl | rfl : i = 0 ∨ i = 1 ∨ i = 2 ∨ i = 3 := by omega
      · exact step_lA rfl 3 rfl (by kernel_rfl) _ rfl _ _  E3 rfl
      · exact step_form rfl 12 0 _ _ rfl (by kernel_rfl) rfl rfl
      · exact step_fby rfl 13 1 _ _ rfl (by kernel_rfl) rfl rfl
      · exact step_move rfl 14 2 (by exact Or.inr rfl) (by kernel_rfl) rfl
    intro A W hb hw hF
    have e2 := hF 3 2 (by kernel_rfl)
    obtain ⟨vs, hvs⟩ : ∃ vs : Nat → Value, ∀ d, A.tmps.getD d undef = vs d := ⟨_, fun _ => rfl⟩
    rw [hvs] at e2
    rw [puts_of (md := .any) (k := 4) (by kernel_rfl) rfl hb vs hvs]
    have N9 := nxt N hw
    have z := N.size
    clear hb hF hvs hw RX RY TT CC E3 CX CY
    obtain ⟨zs, b, d, h, e3, o3, l3, hzs, k1, k2⟩ := e2
    replace hzs : zs = fill (byt (rpY xs ys % PP + if (!decide (rpX xs ys % PP % 2 = 0)) = true then 57896044618658097711785492504343953926634992332820282019728792003956564819968 else 0)) 32 := hzs
    have HZ := hide hzs
    clear hzs
    simp only [puts, e3, Act.put, List.setIfInBounds_toArray, List.set_cons_succ, List.set_cons_zero]
    go_wp2
    go_ret
    exact ⟨by rw [e1.out, ← HZ.out]; exact ⟨b, d, h, rfl, o3, k1, k2, by omega⟩, N9⟩
end Go.Proofs.YthapcapiiknjdaaDoor
