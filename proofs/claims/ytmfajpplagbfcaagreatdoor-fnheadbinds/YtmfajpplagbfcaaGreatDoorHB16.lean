import Derived.Test.YtmfajpplagbfcaaGreatDoorHB13
import Derived.Test.YtmfajpplagbfcaaGreatDoorHB10
import Derived.Test.YtmfajpplagbfcaaGreatDoorHB15
namespace Go.Proofs.YtmfajpplagbfcaaGreatDoor
set_option maxRecDepth 100000
open Go Go.RowKit
def enL (k : Int) (b : List Int) : List Int := [k] ++ bigL (b.length : Int) 3 ++ b
set_option maxRecDepth 100000 in
set_option maxHeartbeats 1000000 in
theorem encHello (w : World) (vs : Array Value) (x1 x2 x3 x4 x5 x6 x7 x8 x9 x10 x11 x12 : Value) (hv : vs = #[.int .i64 1, x1, x2, x3, x4, x5, x6, x7, x8, x9, x10, x11, x12]) (s : Bool) (fs : List Value) (f : Int) (bl : List Int) (hb : f = 0 → bl.length ≤ 536870912)
    (TO : ∀ W, Below w.heap.size w W → Calls Tryz.prog 19 #[.agg vs] W (TyP W s 85 89 fs f))
    (BD : ∀ W q, Below w.heap.size w W → RwC W q fs 89 → s = true → f = 0 → Calls Tryz.prog 127 #[.pointer (some ⟨q, 0, none⟩)] W (BodP W bl)) :
    Calls Tryz.prog 7 #[.agg vs] w (BodP w (if s = true ∧ f = 0 then enL 1 bl else [])) := by
  subst hv
  obtain ⟨out, ho⟩ : ∃ l, l = (if s = true ∧ f = 0 then enL 1 bl else []) := ⟨_, rfl⟩
  rw [← ho]
  have HO := hide ho
  clear ho
  obtain ⟨i0, hi, hz0, hz1, hz2⟩ := info_parts Tryz.info5
  have n0 : Below w.heap.size w (w.alloc (.cells #[.int .i64 1, x1, x2, x3, x4, x5, x6, x7, x8, x9, x10, x11, x12] 26)) := (Below.refl _ _).alloc (Nat.le_refl _) _
  have CC := hide (TO _ n0)
  have RW := RwC.new w [.int .i64 1, x1, x2, x3, x4, x5, x6, x7, x8, x9, x10, x11, x12] 26
  have RG := RwC.range RW
  obtain ⟨d13, hd13, hrow13⟩ := rowM
  have N0 := hide n0
  have BH := hide BD
  clear TO n0 BD
  go_enter Tryz.func7, Tryz.ntmps7
  go_wp2_with fail
  refine CC.out.mono ?_
  rintro e w1 ⟨h | h, n1⟩
  · obtain ⟨rfl, rfl⟩ := h
    have eo : Hid (out = []) := by show _ = _; rw [HO.out, if_neg (by simp)]
    have N1 := nxt N0.out n1
    clear CC RG RW BH n1
    go_wp2
    go_ret
    exact ⟨⟨_, rfl, by rw [eo.out]; exact RowB.nil _ _⟩, N1⟩
  obtain ⟨rfl, q, rfl, hq, RQ⟩ := h
  have N1 := nxt N0.out n1
  by_cases f0 : f = 0
  rotate_left
  · have eo : Hid (out = []) := by show _ = _; rw [HO.out, if_neg (fun h => f0 h.2)]
    have d0 : (f == 0) = false := beq_eq_false_iff_ne.2 f0
    clear CC RG RW BH n1 RQ
    go_wp2
    go_ret
    exact ⟨⟨_, rfl, by rw [eo.out]; exact RowB.nil _ _⟩, N1⟩
  subst f0
  replace hb := hb rfl
  have eo : Hid (out = enL 1 bl) := by show _ = _; rw [HO.out, if_pos ⟨rfl, rfl⟩]
  have c0 : w1.cell? ⟨w.heap.size, 0, none⟩ = some (.int .i64 1) := (RW.up n1).cell 0
  have CB := hide (BH.out w1 q N1 RQ rfl rfl)
  clear CC RG RW BH n1 RQ hq
  go_wp2_with fail
  refine CB.out.mono ?_
  rintro e w2 ⟨⟨v2, rfl, R2⟩, n2⟩
  have N2 := nxt N1 n2
  have c2 := cellq n2 c0
  obtain ⟨a2, k2, g2, rfl, r2, z2, _, _⟩ := R2.rd
  have n3 : Below w2.heap.size w2 (w2.alloc (.cells #[.int .u8 1] 5)) := (Below.refl _ _).alloc (Nat.le_refl _) _
  have C4 := hide (appendNumber_any _ w2.heap.size _ _ (RowB.lit1 w2 1) n3.size (bl.length : Int) 3 (by decide) (by simp))
  have N3 := hide n3
  clear CB R2 n2 c0 N1 n3
  go_wp2_with fail
  refine C4.out.mono ?_
  rintro e w4 ⟨v4, rfl, R4, n4⟩
  have N4 : Below w2.heap.size w2 w4 := N3.out.trans n4
  obtain ⟨v5, w5, hap, R5, n5⟩ := append_any (P := Tryz.prog) w4 22 i0 Tryz.underlying22 hi hz0 hz1 hz2 w2.heap.size w2.heap.size _ _ R4 g2 a2 k2 bl (r2.up N4) z2 (by simp [bigL_len]; omega) (Nat.le_refl _) N4.size
  have N5 := nxt N2 (N4.trans n5)
  have S2 := N2.size
  have R6 := R5.base S2
  clear C4 R4 R5 n4 n5 N4 N3 r2 c2 S2
  go_wp2_with (at_builtin; refine Lib.wpList_append_run _ rfl _ _ 22 22 rfl _ _ rfl rfl _ _ hap ?_)
  go_ret
  exact ⟨⟨_, rfl, by rw [eo.out]; exact R6⟩, N5⟩
set_option maxRecDepth 100000 in
set_option maxHeartbeats 1000000 in
theorem encAnswer (w : World) (vs : Array Value) (x1 x2 x3 x4 x5 x6 x7 x8 x9 x10 x11 x12 : Value) (hv : vs = #[.int .i64 2, x1, x2, x3, x4, x5, x6, x7, x8, x9, x10, x11, x12]) (s : Bool) (fs : List Value) (f : Int) (bl : List Int) (hb : f = 0 → bl.length ≤ 536870912)
    (TO : ∀ W, Below w.heap.size w W → Calls Tryz.prog 19 #[.agg vs] W (TyP W s 90 92 fs f))
    (BD : ∀ W q, Below w.heap.size w W → RwC W q fs 92 → s = true → f = 0 → Calls Tryz.prog 147 #[.pointer (some ⟨q, 0, none⟩)] W (BodP W bl)) :
    Calls Tryz.prog 7 #[.agg vs] w (BodP w (if s = true ∧ f = 0 then enL 2 bl else [])) := by
  subst hv
  obtain ⟨out, ho⟩ : ∃ l, l = (if s = true ∧ f = 0 then enL 2 bl else []) := ⟨_, rfl⟩
  rw [← ho]
  have HO := hide ho
  clear ho
  obtain ⟨i0, hi, hz0, hz1, hz2⟩ := info_parts Tryz.info5
  have n0 : Below w.heap.size w (w.alloc (.cells #[.int .i64 2, x1, x2, x3, x4, x5, x6, x7, x8, x9, x10, x11, x12] 26)) := (Below.refl _ _).alloc (Nat.le_refl _) _
  have CC := hide (TO _ n0)
  have RW := RwC.new w [.int .i64 2, x1, x2, x3, x4, x5, x6, x7, x8, x9, x10, x11, x12] 26
  have RG := RwC.range RW
  obtain ⟨d13, hd13, hrow13⟩ := rowM
  have N0 := hide n0
  have BH := hide BD
  clear TO n0 BD
  go_enter Tryz.func7, Tryz.ntmps7
  go_wp2_with fail
  refine CC.out.mono ?_
  rintro e w1 ⟨h | h, n1⟩
  · obtain ⟨rfl, rfl⟩ := h
    have eo : Hid (out = []) := by show _ = _; rw [HO.out, if_neg (by simp)]
    have N1 := nxt N0.out n1
    clear CC RG RW BH n1
    go_wp2
    go_ret
    exact ⟨⟨_, rfl, by rw [eo.out]; exact RowB.nil _ _⟩, N1⟩
  obtain ⟨rfl, q, rfl, hq, RQ⟩ := h
  have N1 := nxt N0.out n1
  by_cases f0 : f = 0
  rotate_left
  · have eo : Hid (out = []) := by show _ = _; rw [HO.out, if_neg (fun h => f0 h.2)]
    have d0 : (f == 0) = false := beq_eq_false_iff_ne.2 f0
    clear CC RG RW BH n1 RQ
    go_wp2
    go_ret
    exact ⟨⟨_, rfl, by rw [eo.out]; exact RowB.nil _ _⟩, N1⟩
  subst f0
  replace hb := hb rfl
  have eo : Hid (out = enL 2 bl) := by show _ = _; rw [HO.out, if_pos ⟨rfl, rfl⟩]
  have c0 : w1.cell? ⟨w.heap.size, 0, none⟩ = some (.int .i64 2) := (RW.up n1).cell 0
  have CB := hide (BH.out w1 q N1 RQ rfl rfl)
  clear CC RG RW BH n1 RQ hq
  go_wp2_with fail
  refine CB.out.mono ?_
  rintro e w2 ⟨⟨v2, rfl, R2⟩, n2⟩
  have N2 := nxt N1 n2
  have c2 := cellq n2 c0
  obtain ⟨a2, k2, g2, rfl, r2, z2, _, _⟩ := R2.rd
  have n3 : Below w2.heap.size w2 (w2.alloc (.cells #[.int .u8 2] 5)) := (Below.refl _ _).alloc (Nat.le_refl _) _
  have C4 := hide (appendNumber_any _ w2.heap.size _ _ (RowB.lit1 w2 2) n3.size (bl.length : Int) 3 (by decide) (by simp))
  have N3 := hide n3
  clear CB R2 n2 c0 N1 n3
  go_wp2_with fail
  refine C4.out.mono ?_
  rintro e w4 ⟨v4, rfl, R4, n4⟩
  have N4 : Below w2.heap.size w2 w4 := N3.out.trans n4
  obtain ⟨v5, w5, hap, R5, n5⟩ := append_any (P := Tryz.prog) w4 22 i0 Tryz.underlying22 hi hz0 hz1 hz2 w2.heap.size w2.heap.size _ _ R4 g2 a2 k2 bl (r2.up N4) z2 (by simp [bigL_len]; omega) (Nat.le_refl _) N4.size
  have N5 := nxt N2 (N4.trans n5)
  have S2 := N2.size
  have R6 := R5.base S2
  clear C4 R4 R5 n4 n5 N4 N3 r2 c2 S2
  go_wp2_with (at_builtin; refine Lib.wpList_append_run _ rfl _ _ 22 22 rfl _ _ rfl rfl _ _ hap ?_)
  go_ret
  exact ⟨⟨_, rfl, by rw [eo.out]; exact R6⟩, N5⟩
set_option maxRecDepth 100000 in
set_option maxHeartbeats 1000000 in
theorem encTicket (w : World) (vs : Array Value) (x1 x2 x3 x4 x5 x6 x7 x8 x9 x10 x11 x12 : Value) (hv : vs = #[.int .i64 4, x1, x2, x3, x4, x5, x6, x7, x8, x9, x10, x11, x12]) (s : Bool) (fs : List Value) (f : Int) (bl : List Int) (hb : f = 0 → bl.length ≤ 536870912)
    (TO : ∀ W, Below w.heap.size w W → Calls Tryz.prog 19 #[.agg vs] W (TyP W s 93 95 fs f))
    (BD : ∀ W q, Below w.heap.size w W → RwC W q fs 95 → s = true → f = 0 → Calls Tryz.prog 150 #[.pointer (some ⟨q, 0, none⟩)] W (BodP W bl)) :
    Calls Tryz.prog 7 #[.agg vs] w (BodP w (if s = true ∧ f = 0 then enL 4 bl else [])) := by
  subst hv
  obtain ⟨out, ho⟩ : ∃ l, l = (if s = true ∧ f = 0 then enL 4 bl else []) := ⟨_, rfl⟩
  rw [← ho]
  have HO := hide ho
  clear ho
  obtain ⟨i0, hi, hz0, hz1, hz2⟩ := info_parts Tryz.info5
  have n0 : Below w.heap.size w (w.alloc (.cells #[.int .i64 4, x1, x2, x3, x4, x5, x6, x7, x8, x9, x10, x11, x12] 26)) := (Below.refl _ _).alloc (Nat.le_refl _) _
  have CC := hide (TO _ n0)
  have RW := RwC.new w [.int .i64 4, x1, x2, x3, x4, x5, x6, x7, x8, x9, x10, x11, x12] 26
  have RG := RwC.range RW
  obtain ⟨d13, hd13, hrow13⟩ := rowM
  have N0 := hide n0
  have BH := hide BD
  clear TO n0 BD
  go_enter Tryz.func7, Tryz.ntmps7
  go_wp2_with fail
  refine CC.out.mono ?_
  rintro e w1 ⟨h | h, n1⟩
  · obtain ⟨rfl, rfl⟩ := h
    have eo : Hid (out = []) := by show _ = _; rw [HO.out, if_neg (by simp)]
    have N1 := nxt N0.out n1
    clear CC RG RW BH n1
    go_wp2
    go_ret
    exact ⟨⟨_, rfl, by rw [eo.out]; exact RowB.nil _ _⟩, N1⟩
  obtain ⟨rfl, q, rfl, hq, RQ⟩ := h
  have N1 := nxt N0.out n1
  by_cases f0 : f = 0
  rotate_left
  · have eo : Hid (out = []) := by show _ = _; rw [HO.out, if_neg (fun h => f0 h.2)]
    have d0 : (f == 0) = false := beq_eq_false_iff_ne.2 f0
    clear CC RG RW BH n1 RQ
    go_wp2
    go_ret
    exact ⟨⟨_, rfl, by rw [eo.out]; exact RowB.nil _ _⟩, N1⟩
  subst f0
  replace hb := hb rfl
  have eo : Hid (out = enL 4 bl) := by show _ = _; rw [HO.out, if_pos ⟨rfl, rfl⟩]
  have c0 : w1.cell? ⟨w.heap.size, 0, none⟩ = some (.int .i64 4) := (RW.up n1).cell 0
  have CB := hide (BH.out w1 q N1 RQ rfl rfl)
  clear CC RG RW BH n1 RQ hq
  go_wp2_with fail
  refine CB.out.mono ?_
  rintro e w2 ⟨⟨v2, rfl, R2⟩, n2⟩
  have N2 := nxt N1 n2
  have c2 := cellq n2 c0
  obtain ⟨a2, k2, g2, rfl, r2, z2, _, _⟩ := R2.rd
  have n3 : Below w2.heap.size w2 (w2.alloc (.cells #[.int .u8 4] 5)) := (Below.refl _ _).alloc (Nat.le_refl _) _
  have C4 := hide (appendNumber_any _ w2.heap.size _ _ (RowB.lit1 w2 4) n3.size (bl.length : Int) 3 (by decide) (by simp))
  have N3 := hide n3
  clear CB R2 n2 c0 N1 n3
  go_wp2_with fail
  refine C4.out.mono ?_
  rintro e w4 ⟨v4, rfl, R4, n4⟩
  have N4 : Below w2.heap.size w2 w4 := N3.out.trans n4
  obtain ⟨v5, w5, hap, R5, n5⟩ := append_any (P := Tryz.prog) w4 22 i0 Tryz.underlying22 hi hz0 hz1 hz2 w2.heap.size w2.heap.size _ _ R4 g2 a2 k2 bl (r2.up N4) z2 (by simp [bigL_len]; omega) (Nat.le_refl _) N4.size
  have N5 := nxt N2 (N4.trans n5)
  have S2 := N2.size
  have R6 := R5.base S2
  clear C4 R4 R5 n4 n5 N4 N3 r2 c2 S2
  go_wp2_with (at_builtin; refine Lib.wpList_append_run _ rfl _ _ 22 22 rfl _ _ rfl rfl _ _ hap ?_)
  go_ret
  exact ⟨⟨_, rfl, by rw [eo.out]; exact R6⟩, N5⟩
set_option maxRecDepth 100000 in
set_option maxHeartbeats 1000000 in
theorem encEnd (w : World) (vs : Array Value) (x1 x2 x3 x4 x5 x6 x7 x8 x9 x10 x11 x12 : Value) (hv : vs = #[.int .i64 5, x1, x2, x3, x4, x5, x6, x7, x8, x9, x10, x11, x12]) (s : Bool) (fs : List Value) (f : Int) (bl : List Int) (hb : f = 0 → bl.length ≤ 536870912)
    (TO : ∀ W, Below w.heap.size w W → Calls Tryz.prog 19 #[.agg vs] W (TyP W s 96 98 fs f))
    (BD : ∀ W q, Below w.heap.size w W → RwC W q fs 98 → s = true → f = 0 → Calls Tryz.prog 154 #[.pointer (some ⟨q, 0, none⟩)] W (BodP W bl)) :
    Calls Tryz.prog 7 #[.agg vs] w (BodP w (if s = true ∧ f = 0 then enL 5 bl else [])) := by
  subst hv
  obtain ⟨out, ho⟩ : ∃ l, l = (if s = true ∧ f = 0 then enL 5 bl else []) := ⟨_, rfl⟩
  rw [← ho]
  have HO := hide ho
  clear ho
  obtain ⟨i0, hi, hz0, hz1, hz2⟩ := info_parts Tryz.info5
  have n0 : Below w.heap.size w (w.alloc (.cells #[.int .i64 5, x1, x2, x3, x4, x5, x6, x7, x8, x9, x10, x11, x12] 26)) := (Below.refl _ _).alloc (Nat.le_refl _) _
  have CC := hide (TO _ n0)
  have RW := RwC.new w [.int .i64 5, x1, x2, x3, x4, x5, x6, x7, x8, x9, x10, x11, x12] 26
  have RG := RwC.range RW
  obtain ⟨d13, hd13, hrow13⟩ := rowM
  have N0 := hide n0
  have BH := hide BD
  clear TO n0 BD
  go_enter Tryz.func7, Tryz.ntmps7
  go_wp2_with fail
  refine CC.out.mono ?_
  rintro e w1 ⟨h | h, n1⟩
  · obtain ⟨rfl, rfl⟩ := h
    have eo : Hid (out = []) := by show _ = _; rw [HO.out, if_neg (by simp)]
    have N1 := nxt N0.out n1
    clear CC RG RW BH n1
    go_wp2
    go_ret
    exact ⟨⟨_, rfl, by rw [eo.out]; exact RowB.nil _ _⟩, N1⟩
  obtain ⟨rfl, q, rfl, hq, RQ⟩ := h
  have N1 := nxt N0.out n1
  by_cases f0 : f = 0
  rotate_left
  · have eo : Hid (out = []) := by show _ = _; rw [HO.out, if_neg (fun h => f0 h.2)]
    have d0 : (f == 0) = false := beq_eq_false_iff_ne.2 f0
    clear CC RG RW BH n1 RQ
    go_wp2
    go_ret
    exact ⟨⟨_, rfl, by rw [eo.out]; exact RowB.nil _ _⟩, N1⟩
  subst f0
  replace hb := hb rfl
  have eo : Hid (out = enL 5 bl) := by show _ = _; rw [HO.out, if_pos ⟨rfl, rfl⟩]
  have c0 : w1.cell? ⟨w.heap.size, 0, none⟩ = some (.int .i64 5) := (RW.up n1).cell 0
  have CB := hide (BH.out w1 q N1 RQ rfl rfl)
  clear CC RG RW BH n1 RQ hq
  go_wp2_with fail
  refine CB.out.mono ?_
  rintro e w2 ⟨⟨v2, rfl, R2⟩, n2⟩
  have N2 := nxt N1 n2
  have c2 := cellq n2 c0
  obtain ⟨a2, k2, g2, rfl, r2, z2, _, _⟩ := R2.rd
  have n3 : Below w2.heap.size w2 (w2.alloc (.cells #[.int .u8 5] 5)) := (Below.refl _ _).alloc (Nat.le_refl _) _
  have C4 := hide (appendNumber_any _ w2.heap.size _ _ (RowB.lit1 w2 5) n3.size (bl.length : Int) 3 (by decide) (by simp))
  have N3 := hide n3
  clear CB R2 n2 c0 N1 n3
  go_wp2_with fail
  refine C4.out.mono ?_
  rintro e w4 ⟨v4, rfl, R4, n4⟩
  have N4 : Below w2.heap.size w2 w4 := N3.out.trans n4
  obtain ⟨v5, w5, hap, R5, n5⟩ := append_any (P := Tryz.prog) w4 22 i0 Tryz.underlying22 hi hz0 hz1 hz2 w2.heap.size w2.heap.size _ _ R4 g2 a2 k2 bl (r2.up N4) z2 (by simp [bigL_len]; omega) (Nat.le_refl _) N4.size
  have N5 := nxt N2 (N4.trans n5)
  have S2 := N2.size
  have R6 := R5.base S2
  clear C4 R4 R5 n4 n5 N4 N3 r2 c2 S2
  go_wp2_with (at_builtin; refine Lib.wpList_append_run _ rfl _ _ 22 22 rfl _ _ rfl rfl _ _ hap ?_)
  go_ret
  exact ⟨⟨_, rfl, by rw [eo.out]; exact R6⟩, N5⟩
set_option maxRecDepth 100000 in
set_option maxHeartbeats 1000000 in
theorem encExtras (w : World) (vs : Array Value) (x1 x2 x3 x4 x5 x6 x7 x8 x9 x10 x11 x12 : Value) (hv : vs = #[.int .i64 8, x1, x2, x3, x4, x5, x6, x7, x8, x9, x10, x11, x12]) (s : Bool) (fs : List Value) (f : Int) (bl : List Int) (hb : f = 0 → bl.length ≤ 536870912)
    (TO : ∀ W, Below w.heap.size w W → Calls Tryz.prog 19 #[.agg vs] W (TyP W s 99 101 fs f))
    (BD : ∀ W q, Below w.heap.size w W → RwC W q fs 101 → s = true → f = 0 → Calls Tryz.prog 158 #[.pointer (some ⟨q, 0, none⟩)] W (BodP W bl)) :
    Calls Tryz.prog 7 #[.agg vs] w (BodP w (if s = true ∧ f = 0 then enL 8 bl else [])) := by
  subst hv
  obtain ⟨out, ho⟩ : ∃ l, l = (if s = true ∧ f = 0 then enL 8 bl else []) := ⟨_, rfl⟩
  rw [← ho]
  have HO := hide ho
  clear ho
  obtain ⟨i0, hi, hz0, hz1, hz2⟩ := info_parts Tryz.info5
  have n0 : Below w.heap.size w (w.alloc (.cells #[.int .i64 8, x1, x2, x3, x4, x5, x6, x7, x8, x9, x10, x11, x12] 26)) := (Below.refl _ _).alloc (Nat.le_refl _) _
  have CC := hide (TO _ n0)
  have RW := RwC.new w [.int .i64 8, x1, x2, x3, x4, x5, x6, x7, x8, x9, x10, x11, x12] 26
  have RG := RwC.range RW
  obtain ⟨d13, hd13, hrow13⟩ := rowM
  have N0 := hide n0
  have BH := hide BD
  clear TO n0 BD
  go_enter Tryz.func7, Tryz.ntmps7
  go_wp2_with fail
  refine CC.out.mono ?_
  rintro e w1 ⟨h | h, n1⟩
  · obtain ⟨rfl, rfl⟩ := h
    have eo : Hid (out = []) := by show _ = _; rw [HO.out, if_neg (by simp)]
    have N1 := nxt N0.out n1
    clear CC RG RW BH n1
    go_wp2
    go_ret
    exact ⟨⟨_, rfl, by rw [eo.out]; exact RowB.nil _ _⟩, N1⟩
  obtain ⟨rfl, q, rfl, hq, RQ⟩ := h
  have N1 := nxt N0.out n1
  by_cases f0 : f = 0
  rotate_left
  · have eo : Hid (out = []) := by show _ = _; rw [HO.out, if_neg (fun h => f0 h.2)]
    have d0 : (f == 0) = false := beq_eq_false_iff_ne.2 f0
    clear CC RG RW BH n1 RQ
    go_wp2
    go_ret
    exact ⟨⟨_, rfl, by rw [eo.out]; exact RowB.nil _ _⟩, N1⟩
  subst f0
  replace hb := hb rfl
  have eo : Hid (out = enL 8 bl) := by show _ = _; rw [HO.out, if_pos ⟨rfl, rfl⟩]
  have c0 : w1.cell? ⟨w.heap.size, 0, none⟩ = some (.int .i64 8) := (RW.up n1).cell 0
  have CB := hide (BH.out w1 q N1 RQ rfl rfl)
  clear CC RG RW BH n1 RQ hq
  go_wp2_with fail
  refine CB.out.mono ?_
  rintro e w2 ⟨⟨v2, rfl, R2⟩, n2⟩
  have N2 := nxt N1 n2
  have c2 := cellq n2 c0
  obtain ⟨a2, k2, g2, rfl, r2, z2, _, _⟩ := R2.rd
  have n3 : Below w2.heap.size w2 (w2.alloc (.cells #[.int .u8 8] 5)) := (Below.refl _ _).alloc (Nat.le_refl _) _
  have C4 := hide (appendNumber_any _ w2.heap.size _ _ (RowB.lit1 w2 8) n3.size (bl.length : Int) 3 (by decide) (by simp))
  have N3 := hide n3
  clear CB R2 n2 c0 N1 n3
  go_wp2_with fail
  refine C4.out.mono ?_
  rintro e w4 ⟨v4, rfl, R4, n4⟩
  have N4 : Below w2.heap.size w2 w4 := N3.out.trans n4
  obtain ⟨v5, w5, hap, R5, n5⟩ := append_any (P := Tryz.prog) w4 22 i0 Tryz.underlying22 hi hz0 hz1 hz2 w2.heap.size w2.heap.size _ _ R4 g2 a2 k2 bl (r2.up N4) z2 (by simp [bigL_len]; omega) (Nat.le_refl _) N4.size
  have N5 := nxt N2 (N4.trans n5)
  have S2 := N2.size
  have R6 := R5.base S2
  clear C4 R4 R5 n4 n5 N4 N3 r2 c2 S2
  go_wp2_with (at_builtin; refine Lib.wpList_append_run _ rfl _ _ 22 22 rfl _ _ rfl rfl _ _ hap ?_)
  go_ret
  exact ⟨⟨_, rfl, by rw [eo.out]; exact R6⟩, N5⟩
set_option maxRecDepth 100000 in
set_option maxHeartbeats 1000000 in
theorem encCerts (w : World) (vs : Array Value) (x1 x2 x3 x4 x5 x6 x7 x8 x9 x10 x11 x12 : Value) (hv : vs = #[.int .i64 11, x1, x2, x3, x4, x5, x6, x7, x8, x9, x10, x11, x12]) (s : Bool) (fs : List Value) (f : Int) (bl : List Int) (hb : f = 0 → bl.length ≤ 536870912)
    (TO : ∀ W, Below w.heap.size w W → Calls Tryz.prog 19 #[.agg vs] W (TyP W s 102 104 fs f))
    (BD : ∀ W q, Below w.heap.size w W → RwC W q fs 104 → s = true → f = 0 → Calls Tryz.prog 162 #[.pointer (some ⟨q, 0, none⟩)] W (BodP W bl)) :
    Calls Tryz.prog 7 #[.agg vs] w (BodP w (if s = true ∧ f = 0 then enL 11 bl else [])) := by
  subst hv
  obtain ⟨out, ho⟩ : ∃ l, l = (if s = true ∧ f = 0 then enL 11 bl else []) := ⟨_, rfl⟩
  rw [← ho]
  have HO := hide ho
  clear ho
  obtain ⟨i0, hi, hz0, hz1, hz2⟩ := info_parts Tryz.info5
  have n0 : Below w.heap.size w (w.alloc (.cells #[.int .i64 11, x1, x2, x3, x4, x5, x6, x7, x8, x9, x10, x11, x12] 26)) := (Below.refl _ _).alloc (Nat.le_refl _) _
  have CC := hide (TO _ n0)
  have RW := RwC.new w [.int .i64 11, x1, x2, x3, x4, x5, x6, x7, x8, x9, x10, x11, x12] 26
  have RG := RwC.range RW
  obtain ⟨d13, hd13, hrow13⟩ := rowM
  have N0 := hide n0
  have BH := hide BD
  clear TO n0 BD
  go_enter Tryz.func7, Tryz.ntmps7
  go_wp2_with fail
  refine CC.out.mono ?_
  rintro e w1 ⟨h | h, n1⟩
  · obtain ⟨rfl, rfl⟩ := h
    have eo : Hid (out = []) := by show _ = _; rw [HO.out, if_neg (by simp)]
    have N1 := nxt N0.out n1
    clear CC RG RW BH n1
    go_wp2
    go_ret
    exact ⟨⟨_, rfl, by rw [eo.out]; exact RowB.nil _ _⟩, N1⟩
  obtain ⟨rfl, q, rfl, hq, RQ⟩ := h
  have N1 := nxt N0.out n1
  by_cases f0 : f = 0
  rotate_left
  · have eo : Hid (out = []) := by show _ = _; rw [HO.out, if_neg (fun h => f0 h.2)]
    have d0 : (f == 0) = false := beq_eq_false_iff_ne.2 f0
    clear CC RG RW BH n1 RQ
    go_wp2
    go_ret
    exact ⟨⟨_, rfl, by rw [eo.out]; exact RowB.nil _ _⟩, N1⟩
  subst f0
  replace hb := hb rfl
  have eo : Hid (out = enL 11 bl) := by show _ = _; rw [HO.out, if_pos ⟨rfl, rfl⟩]
  have c0 : w1.cell? ⟨w.heap.size, 0, none⟩ = some (.int .i64 11) := (RW.up n1).cell 0
  have CB := hide (BH.out w1 q N1 RQ rfl rfl)
  clear CC RG RW BH n1 RQ hq
  go_wp2_with fail
  refine CB.out.mono ?_
  rintro e w2 ⟨⟨v2, rfl, R2⟩, n2⟩
  have N2 := nxt N1 n2
  have c2 := cellq n2 c0
  obtain ⟨a2, k2, g2, rfl, r2, z2, _, _⟩ := R2.rd
  have n3 : Below w2.heap.size w2 (w2.alloc (.cells #[.int .u8 11] 5)) := (Below.refl _ _).alloc (Nat.le_refl _) _
  have C4 := hide (appendNumber_any _ w2.heap.size _ _ (RowB.lit1 w2 11) n3.size (bl.length : Int) 3 (by decide) (by simp))
  have N3 := hide n3
  clear CB R2 n2 c0 N1 n3
  go_wp2_with fail
  refine C4.out.mono ?_
  rintro e w4 ⟨v4, rfl, R4, n4⟩
  have N4 : Below w2.heap.size w2 w4 := N3.out.trans n4
  obtain ⟨v5, w5, hap, R5, n5⟩ := append_any (P := Tryz.prog) w4 22 i0 Tryz.underlying22 hi hz0 hz1 hz2 w2.heap.size w2.heap.size _ _ R4 g2 a2 k2 bl (r2.up N4) z2 (by simp [bigL_len]; omega) (Nat.le_refl _) N4.size
  have N5 := nxt N2 (N4.trans n5)
  have S2 := N2.size
  have R6 := R5.base S2
  clear C4 R4 R5 n4 n5 N4 N3 r2 c2 S2
  go_wp2_with (at_builtin; refine Lib.wpList_append_run _ rfl _ _ 22 22 rfl _ _ rfl rfl _ _ hap ?_)
  go_ret
  exact ⟨⟨_, rfl, by rw [eo.out]; exact R6⟩, N5⟩
set_option maxRecDepth 100000 in
set_option maxHeartbeats 1000000 in
theorem encProof (w : World) (vs : Array Value) (x1 x2 x3 x4 x5 x6 x7 x8 x9 x10 x11 x12 : Value) (hv : vs = #[.int .i64 15, x1, x2, x3, x4, x5, x6, x7, x8, x9, x10, x11, x12]) (s : Bool) (fs : List Value) (f : Int) (bl : List Int) (hb : f = 0 → bl.length ≤ 536870912)
    (TO : ∀ W, Below w.heap.size w W → Calls Tryz.prog 19 #[.agg vs] W (TyP W s 105 107 fs f))
    (BD : ∀ W q, Below w.heap.size w W → RwC W q fs 107 → s = true → f = 0 → Calls Tryz.prog 169 #[.pointer (some ⟨q, 0, none⟩)] W (BodP W bl)) :
    Calls Tryz.prog 7 #[.agg vs] w (BodP w (if s = true ∧ f = 0 then enL 15 bl else [])) := by
  subst hv
  obtain ⟨out, ho⟩ : ∃ l, l = (if s = true ∧ f = 0 then enL 15 bl else []) := ⟨_, rfl⟩
  rw [← ho]
  have HO := hide ho
  clear ho
  obtain ⟨i0, hi, hz0, hz1, hz2⟩ := info_parts Tryz.info5
  have n0 : Below w.heap.size w (w.alloc (.cells #[.int .i64 15, x1, x2, x3, x4, x5, x6, x7, x8, x9, x10, x11, x12] 26)) := (Below.refl _ _).alloc (Nat.le_refl _) _
  have CC := hide (TO _ n0)
  have RW := RwC.new w [.int .i64 15, x1, x2, x3, x4, x5, x6, x7, x8, x9, x10, x11, x12] 26
  have RG := RwC.range RW
  obtain ⟨d13, hd13, hrow13⟩ := rowM
  have N0 := hide n0
  have BH := hide BD
  clear TO n0 BD
  go_enter Tryz.func7, Tryz.ntmps7
  go_wp2_with fail
  refine CC.out.mono ?_
  rintro e w1 ⟨h | h, n1⟩
  · obtain ⟨rfl, rfl⟩ := h
    have eo : Hid (out = []) := by show _ = _; rw [HO.out, if_neg (by simp)]
    have N1 := nxt N0.out n1
    clear CC RG RW BH n1
    go_wp2
    go_ret
    exact ⟨⟨_, rfl, by rw [eo.out]; exact RowB.nil _ _⟩, N1⟩
  obtain ⟨rfl, q, rfl, hq, RQ⟩ := h
  have N1 := nxt N0.out n1
  by_cases f0 : f = 0
  rotate_left
  · have eo : Hid (out = []) := by show _ = _; rw [HO.out, if_neg (fun h => f0 h.2)]
    have d0 : (f == 0) = false := beq_eq_false_iff_ne.2 f0
    clear CC RG RW BH n1 RQ
    go_wp2
    go_ret
    exact ⟨⟨_, rfl, by rw [eo.out]; exact RowB.nil _ _⟩, N1⟩
  subst f0
  replace hb := hb rfl
  have eo : Hid (out = enL 15 bl) := by show _ = _; rw [HO.out, if_pos ⟨rfl, rfl⟩]
  have c0 : w1.cell? ⟨w.heap.size, 0, none⟩ = some (.int .i64 15) := (RW.up n1).cell 0
  have CB := hide (BH.out w1 q N1 RQ rfl rfl)
  clear CC RG RW BH n1 RQ hq
  go_wp2_with fail
  refine CB.out.mono ?_
  rintro e w2 ⟨⟨v2, rfl, R2⟩, n2⟩
  have N2 := nxt N1 n2
  have c2 := cellq n2 c0
  obtain ⟨a2, k2, g2, rfl, r2, z2, _, _⟩ := R2.rd
  have n3 : Below w2.heap.size w2 (w2.alloc (.cells #[.int .u8 15] 5)) := (Below.refl _ _).alloc (Nat.le_refl _) _
  have C4 := hide (appendNumber_any _ w2.heap.size _ _ (RowB.lit1 w2 15) n3.size (bl.length : Int) 3 (by decide) (by simp))
  have N3 := hide n3
  clear CB R2 n2 c0 N1 n3
  go_wp2_with fail
  refine C4.out.mono ?_
  rintro e w4 ⟨v4, rfl, R4, n4⟩
  have N4 : Below w2.heap.size w2 w4 := N3.out.trans n4
  obtain ⟨v5, w5, hap, R5, n5⟩ := append_any (P := Tryz.prog) w4 22 i0 Tryz.underlying22 hi hz0 hz1 hz2 w2.heap.size w2.heap.size _ _ R4 g2 a2 k2 bl (r2.up N4) z2 (by simp [bigL_len]; omega) (Nat.le_refl _) N4.size
  have N5 := nxt N2 (N4.trans n5)
  have S2 := N2.size
  have R6 := R5.base S2
  clear C4 R4 R5 n4 n5 N4 N3 r2 c2 S2
  go_wp2_with (at_builtin; refine Lib.wpList_append_run _ rfl _ _ 22 22 rfl _ _ rfl rfl _ _ hap ?_)
  go_ret
  exact ⟨⟨_, rfl, by rw [eo.out]; exact R6⟩, N5⟩
set_option maxRecDepth 100000 in
set_option maxHeartbeats 1000000 in
theorem encFinished (w : World) (vs : Array Value) (x1 x2 x3 x4 x5 x6 x7 x8 x9 x10 x11 x12 : Value) (hv : vs = #[.int .i64 20, x1, x2, x3, x4, x5, x6, x7, x8, x9, x10, x11, x12]) (s : Bool) (fs : List Value) (f : Int) (bl : List Int) (hb : f = 0 → bl.length ≤ 536870912)
    (TO : ∀ W, Below w.heap.size w W → Calls Tryz.prog 19 #[.agg vs] W (TyP W s 108 109 fs f))
    (BD : ∀ W q, Below w.heap.size w W → RwC W q fs 109 → s = true → f = 0 → Calls Tryz.prog 174 #[.pointer (some ⟨q, 0, none⟩)] W (BodP W bl)) :
    Calls Tryz.prog 7 #[.agg vs] w (BodP w (if s = true ∧ f = 0 then enL 20 bl else [])) := by
  subst hv
  obtain ⟨out, ho⟩ : ∃ l, l = (if s = true ∧ f = 0 then enL 20 bl else []) := ⟨_, rfl⟩
  rw [← ho]
  have HO := hide ho
  clear ho
  obtain ⟨i0, hi, hz0, hz1, hz2⟩ := info_parts Tryz.info5
  have n0 : Below w.heap.size w (w.alloc (.cells #[.int .i64 20, x1, x2, x3, x4, x5, x6, x7, x8, x9, x10, x11, x12] 26)) := (Below.refl _ _).alloc (Nat.le_refl _) _
  have CC := hide (TO _ n0)
  have RW := RwC.new w [.int .i64 20, x1, x2, x3, x4, x5, x6, x7, x8, x9, x10, x11, x12] 26
  have RG := RwC.range RW
  obtain ⟨d13, hd13, hrow13⟩ := rowM
  have N0 := hide n0
  have BH := hide BD
  clear TO n0 BD
  go_enter Tryz.func7, Tryz.ntmps7
  go_wp2_with fail
  refine CC.out.mono ?_
  rintro e w1 ⟨h | h, n1⟩
  · obtain ⟨rfl, rfl⟩ := h
    have eo : Hid (out = []) := by show _ = _; rw [HO.out, if_neg (by simp)]
    have N1 := nxt N0.out n1
    clear CC RG RW BH n1
    go_wp2
    go_ret
    exact ⟨⟨_, rfl, by rw [eo.out]; exact RowB.nil _ _⟩, N1⟩
  obtain ⟨rfl, q, rfl, hq, RQ⟩ := h
  have N1 := nxt N0.out n1
  by_cases f0 : f = 0
  rotate_left
  · have eo : Hid (out = []) := by show _ = _; rw [HO.out, if_neg (fun h => f0 h.2)]
    have d0 : (f == 0) = false := beq_eq_false_iff_ne.2 f0
    clear CC RG RW BH n1 RQ
    go_wp2
    go_ret
    exact ⟨⟨_, rfl, by rw [eo.out]; exact RowB.nil _ _⟩, N1⟩
  subst f0
  replace hb := hb rfl
  have eo : Hid (out = enL 20 bl) := by show _ = _; rw [HO.out, if_pos ⟨rfl, rfl⟩]
  have c0 : w1.cell? ⟨w.heap.size, 0, none⟩ = some (.int .i64 20) := (RW.up n1).cell 0
  have CB := hide (BH.out w1 q N1 RQ rfl rfl)
  clear CC RG RW BH n1 RQ hq
  go_wp2_with fail
  refine CB.out.mono ?_
  rintro e w2 ⟨⟨v2, rfl, R2⟩, n2⟩
  have N2 := nxt N1 n2
  have c2 := cellq n2 c0
  obtain ⟨a2, k2, g2, rfl, r2, z2, _, _⟩ := R2.rd
  have n3 : Below w2.heap.size w2 (w2.alloc (.cells #[.int .u8 20] 5)) := (Below.refl _ _).alloc (Nat.le_refl _) _
  have C4 := hide (appendNumber_any _ w2.heap.size _ _ (RowB.lit1 w2 20) n3.size (bl.length : Int) 3 (by decide) (by simp))
  have N3 := hide n3
  clear CB R2 n2 c0 N1 n3
  go_wp2_with fail
  refine C4.out.mono ?_
  rintro e w4 ⟨v4, rfl, R4, n4⟩
  have N4 : Below w2.heap.size w2 w4 := N3.out.trans n4
  obtain ⟨v5, w5, hap, R5, n5⟩ := append_any (P := Tryz.prog) w4 22 i0 Tryz.underlying22 hi hz0 hz1 hz2 w2.heap.size w2.heap.size _ _ R4 g2 a2 k2 bl (r2.up N4) z2 (by simp [bigL_len]; omega) (Nat.le_refl _) N4.size
  have N5 := nxt N2 (N4.trans n5)
  have S2 := N2.size
  have R6 := R5.base S2
  clear C4 R4 R5 n4 n5 N4 N3 r2 c2 S2
  go_wp2_with (at_builtin; refine Lib.wpList_append_run _ rfl _ _ 22 22 rfl _ _ rfl rfl _ _ hap ?_)
  go_ret
  exact ⟨⟨_, rfl, by rw [eo.out]; exact R6⟩, N5⟩
set_option maxRecDepth 100000 in
set_option maxHeartbeats 1000000 in
theorem encUpdate (w : World) (vs : Array Value) (x1 x2 x3 x4 x5 x6 x7 x8 x9 x10 x11 x12 : Value) (hv : vs = #[.int .i64 24, x1, x2, x3, x4, x5, x6, x7, x8, x9, x10, x11, x12]) (s : Bool) (fs : List Value) (f : Int) (bl : List Int) (hb : f = 0 → bl.length ≤ 536870912)
    (TO : ∀ W, Below w.heap.size w W → Calls Tryz.prog 19 #[.agg vs] W (TyP W s 110 112 fs f))
    (BD : ∀ W q, Below w.heap.size w W → RwC W q fs 112 → s = true → f = 0 → Calls Tryz.prog 178 #[.pointer (some ⟨q, 0, none⟩)] W (BodP W bl)) :
    Calls Tryz.prog 7 #[.agg vs] w (BodP w (if s = true ∧ f = 0 then enL 24 bl else [])) := by
  subst hv
  obtain ⟨out, ho⟩ : ∃ l, l = (if s = true ∧ f = 0 then enL 24 bl else []) := ⟨_, rfl⟩
  rw [← ho]
  have HO := hide ho
  clear ho
  obtain ⟨i0, hi, hz0, hz1, hz2⟩ := info_parts Tryz.info5
  have n0 : Below w.heap.size w (w.alloc (.cells #[.int .i64 24, x1, x2, x3, x4, x5, x6, x7, x8, x9, x10, x11, x12] 26)) := (Below.refl _ _).alloc (Nat.le_refl _) _
  have CC := hide (TO _ n0)
  have RW := RwC.new w [.int .i64 24, x1, x2, x3, x4, x5, x6, x7, x8, x9, x10, x11, x12] 26
  have RG := RwC.range RW
  obtain ⟨d13, hd13, hrow13⟩ := rowM
  have N0 := hide n0
  have BH := hide BD
  clear TO n0 BD
  go_enter Tryz.func7, Tryz.ntmps7
  go_wp2_with fail
  refine CC.out.mono ?_
  rintro e w1 ⟨h | h, n1⟩
  · obtain ⟨rfl, rfl⟩ := h
    have eo : Hid (out = []) := by show _ = _; rw [HO.out, if_neg (by simp)]
    have N1 := nxt N0.out n1
    clear CC RG RW BH n1
    go_wp2
    go_ret
    exact ⟨⟨_, rfl, by rw [eo.out]; exact RowB.nil _ _⟩, N1⟩
  obtain ⟨rfl, q, rfl, hq, RQ⟩ := h
  have N1 := nxt N0.out n1
  by_cases f0 : f = 0
  rotate_left
  · have eo : Hid (out = []) := by show _ = _; rw [HO.out, if_neg (fun h => f0 h.2)]
    have d0 : (f == 0) = false := beq_eq_false_iff_ne.2 f0
    clear CC RG RW BH n1 RQ
    go_wp2
    go_ret
    exact ⟨⟨_, rfl, by rw [eo.out]; exact RowB.nil _ _⟩, N1⟩
  subst f0
  replace hb := hb rfl
  have eo : Hid (out = enL 24 bl) := by show _ = _; rw [HO.out, if_pos ⟨rfl, rfl⟩]
  have c0 : w1.cell? ⟨w.heap.size, 0, none⟩ = some (.int .i64 24) := (RW.up n1).cell 0
  have CB := hide (BH.out w1 q N1 RQ rfl rfl)
  clear CC RG RW BH n1 RQ hq
  go_wp2_with fail
  refine CB.out.mono ?_
  rintro e w2 ⟨⟨v2, rfl, R2⟩, n2⟩
  have N2 := nxt N1 n2
  have c2 := cellq n2 c0
  obtain ⟨a2, k2, g2, rfl, r2, z2, _, _⟩ := R2.rd
  have n3 : Below w2.heap.size w2 (w2.alloc (.cells #[.int .u8 24] 5)) := (Below.refl _ _).alloc (Nat.le_refl _) _
  have C4 := hide (appendNumber_any _ w2.heap.size _ _ (RowB.lit1 w2 24) n3.size (bl.length : Int) 3 (by decide) (by simp))
  have N3 := hide n3
  clear CB R2 n2 c0 N1 n3
  go_wp2_with fail
  refine C4.out.mono ?_
  rintro e w4 ⟨v4, rfl, R4, n4⟩
  have N4 : Below w2.heap.size w2 w4 := N3.out.trans n4
  obtain ⟨v5, w5, hap, R5, n5⟩ := append_any (P := Tryz.prog) w4 22 i0 Tryz.underlying22 hi hz0 hz1 hz2 w2.heap.size w2.heap.size _ _ R4 g2 a2 k2 bl (r2.up N4) z2 (by simp [bigL_len]; omega) (Nat.le_refl _) N4.size
  have N5 := nxt N2 (N4.trans n5)
  have S2 := N2.size
  have R6 := R5.base S2
  clear C4 R4 R5 n4 n5 N4 N3 r2 c2 S2
  go_wp2_with (at_builtin; refine Lib.wpList_append_run _ rfl _ _ 22 22 rfl _ _ rfl rfl _ _ hap ?_)
  go_ret
  exact ⟨⟨_, rfl, by rw [eo.out]; exact R6⟩, N5⟩
end Go.Proofs.YtmfajpplagbfcaaGreatDoor
