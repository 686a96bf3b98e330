import Derived.Test.YtmmbkkfjiaoeiaaGreatGV10
import Derived.Test.YtmmbkkfjiaoeiaaGreatGV8
import Derived.Test.YtmmbkkfjiaoeiaaGreatGV6
namespace Go.Proofs.YtmmbkkfjiaoeiaaGreat
open Go Go.RowKit
theorem rowBl : ∃ d, Tryz.prog.underlying 52 = some d ∧ d.isRow = true := ⟨_, Tryz.underlying52, rfl⟩
structure CtsR (w : World) (g : Nat) (a : Option Addr) (bs : List (List Int)) (ps : List Plb) : Prop where
  r : RdL w g a bs ps
  n : bs.length ≤ 4
  z : ∀ i, i < bs.length → (bs.getD i []).length ≤ 1048576
  y : ∀ i, i < bs.length → (ps.getD i plb0).a = none → (ps.getD i plb0).c = 0
  q : ∀ i, i < bs.length → (bs.getD i []).length = 0 ∨ (ps.getD i plb0).q < w.heap.size
theorem CtsR.up {w w' : World} {g : Nat} {a : Option Addr} {bs : List (List Int)} {ps : List Plb} (h : CtsR w g a bs ps) (n : Below w.heap.size w w') : CtsR w' g a bs ps := ⟨h.r.up n, h.n, h.z, h.y, fun i hi => (h.q i hi).imp id fun x => Nat.lt_of_lt_of_le x n.size⟩
theorem lo_take (bs : List (List Int)) (k : Nat) (h : k < bs.length) : ((bs.map loL).take (k + 1)).flatten = ((bs.map loL).take k).flatten ++ loL (bs.getD k []) := by
  rw [List.take_add_one]
  simp [h]
theorem lo_sum (bs : List (List Int)) (B : Nat) (hz : ∀ i, i < bs.length → (bs.getD i []).length ≤ B) (k : Nat) : ((bs.map loL).take k).flatten.length ≤ k * (B + 2) := by
  induction k with
  | zero => simp
  | succ k ih =>
    by_cases h : k < bs.length
    · rw [lo_take bs k h, List.length_append, loL_len, Nat.succ_mul]
      have := hz k h
      omega
    · rw [List.take_of_length_le (by simp; omega)]
      rw [List.take_of_length_le (by simp; omega)] at ih
      rw [Nat.succ_mul]
      omega
set_option maxHeartbeats 2000000 in
theorem certsBody_any (w : World) (q g : Nat) (a : Option Addr) (c : Nat) (bs : List (List Int)) (ps : List Plb) (h0 : w.cell? ⟨q, 0, none⟩ = some (.slice a bs.length c)) (H : CtsR w g a bs ps) :
    Calls Tryz.prog 129 #[.pointer (some ⟨q, 0, none⟩)] w (BodP w (clL bs)) := by
  obtain ⟨i0, hi, hz0, hz1, hz2⟩ := info_parts Tryz.info5
  obtain ⟨dB, hdB, hrowB⟩ := rowBl
  have SUM := hide (lo_sum bs 1048576 H.z)
  have hn := H.n
  have n1 : Below w.heap.size w (w.alloc (.cells #[.int .u8 (bs.length : Int)] 5)) := (Below.refl _ _).alloc (Nat.le_refl _) _
  have R1 := RowB.lit1 w (bs.length : Int)
  have k0 := cellq n1 h0
  go_enter Tryz.func129, Tryz.ntmps129
  go_wp2
  generalize w.alloc (.cells #[.int .u8 (bs.length : Int)] 5) = wa at *
  go_loopw [3, 5, 18] (fun x _ i wr => ∃ k : Nat, k ≤ bs.length ∧ i = .int .i64 k ∧ RowB wr w.heap.size x ([(bs.length : Int)] ++ ((bs.map loL).take k).flatten) ∧ Below w.heap.size w wr) (fun _ _ i _ => bs.length - (intOf i).toNat)
  case atStart => exact ⟨0, Nat.zero_le _, rfl, by simpa using R1, n1⟩
  case round =>
    obtain ⟨k, hk, rfl, R, hN⟩ := hrel
    clear R1 n1 k0
    by_cases hlt : k < bs.length
    · have HW := H.up hN
      obtain ⟨off, ea, hc⟩ := HW.r.r (by omega)
      subst ea
      have t0 : (k : Int) < (bs.length : Int) := by omega
      have c1 := hc k hlt
      have rb := HW.r.b k hlt
      have ST := hide (lo_take bs k hlt)
      have zk := H.z k hlt
      have yk := H.y k hlt
      have qk := H.q k hlt
      have SK : ([(bs.length : Int)] ++ ((bs.map loL).take k).flatten).length ≤ 1073741824 := by
        have := SUM.out k
        have : k * (1048576 + 2) ≤ 4 * (1048576 + 2) := Nat.mul_le_mul_right _ (by omega)
        simp only [List.length_append, List.length_cons, List.length_nil]
        omega
      have RG : wr.rangeAt g (off + k) [.slice (ps.getD k plb0).a (bs.getD k []).length (ps.getD k plb0).c] := fun j v hj => by
        match j, hj with
        | 0, hj => simp at hj; subst hj; exact c1
      clear hc HW SUM
      generalize bs.getD k [] = y at *
      generalize ps.getD k plb0 = p at *
      have nA : Below wr.heap.size wr (wr.alloc (.cells #[.slice p.a y.length p.c] 52)) := (Below.refl _ _).alloc (Nat.le_refl _) _
      have NA : Below w.heap.size w (wr.alloc (.cells #[.slice p.a y.length p.c] 52)) := hN.trans (nA.mono hN.size)
      have CL := hide (appendLong_any _ w.heap.size _ _ (R.up nA) NA.size p.q p.a p.c y (rb.up nA) yk qk SK zk)
      go_wp2_with fail
      refine CL.out.mono ?_
      rintro r w4 ⟨v4, rfl, R4, n4⟩
      rw [List.append_assoc, ← ST.out] at R4
      have N4 := NA.trans n4
      clear CL n4 hN ST c1 nA NA RG rb R H
      go_wp2
      go_roundw
      case rel => exact ⟨k + 1, by omega, by go_num, R4, N4⟩
      case measure => simp [intOf]; omega
    · obtain rfl : k = bs.length := by omega
      rw [List.take_of_length_le (by simp)] at R
      clear H SUM
      go_wp2
      go_ret
      exact ⟨⟨_, rfl, R⟩, hN⟩
end Go.Proofs.YtmmbkkfjiaoeiaaGreat
namespace Go.Proofs.YtmmbkkfjiaoeiaaGreat
open Go Go.RowKit
def enL (k : Int) (b : List Int) : List Int := [k] ++ bigL (b.length : Int) 3 ++ b
set_option maxRecDepth 100000 in
set_option maxHeartbeats 1000000 in
theorem encHello (w : World) (vs : Array Value) (x1 x2 x3 x4 x5 x6 x7 x8 x9 x10 x11 x12 : Value) (hv : vs = #[.int .i64 1, x1, x2, x3, x4, x5, x6, x7, x8, x9, x10, x11, x12]) (s : Bool) (fs : List Value) (f : Int) (bl : List Int) (hb : f = 0 → bl.length ≤ 536870912)
    (TO : ∀ W, Below w.heap.size w W → Calls Tryz.prog 16 #[.agg vs] W (TyP W s 72 76 fs f))
    (BD : ∀ W q, Below w.heap.size w W → RwC W q fs 76 → s = true → f = 0 → Calls Tryz.prog 87 #[.pointer (some ⟨q, 0, none⟩)] W (BodP W bl)) :
    Calls Tryz.prog 5 #[.agg vs] w (BodP w (if s = true ∧ f = 0 then enL 1 bl else [])) := by
  subst hv
  obtain ⟨out, ho⟩ : ∃ l, l = (if s = true ∧ f = 0 then enL 1 bl else []) := ⟨_, rfl⟩
  rw [← ho]
  have HO := hide ho
  clear ho
  obtain ⟨i0, hi, hz0, hz1, hz2⟩ := info_parts Tryz.info5
  have n0 : Below w.heap.size w (w.alloc (.cells #[.int .i64 1, x1, x2, x3, x4, x5, x6, x7, x8, x9, x10, x11, x12] 26)) := (Below.refl _ _).alloc (Nat.le_refl _) _
  have CC := hide (TO _ n0)
  have RW := RwC.new w [.int .i64 1, x1, x2, x3, x4, x5, x6, x7, x8, x9, x10, x11, x12] 26
  have RG := RwC.range RW
  obtain ⟨d13, hd13, hrow13⟩ := rowM
  have N0 := hide n0
  have BH := hide BD
  clear TO n0 BD
  go_enter Tryz.func5, Tryz.ntmps5
  go_wp2_with fail
  refine CC.out.mono ?_
  rintro e w1 ⟨h | h, n1⟩
  · obtain ⟨rfl, rfl⟩ := h
    have eo : Hid (out = []) := by show _ = _; rw [HO.out, if_neg (by simp)]
    have N1 := nxt N0.out n1
    clear CC RG RW BH n1
    go_wp2
    go_ret
    exact ⟨⟨_, rfl, by rw [eo.out]; exact RowB.nil _ _⟩, N1⟩
  obtain ⟨rfl, q, rfl, hq, RQ⟩ := h
  have N1 := nxt N0.out n1
  by_cases f0 : f = 0
  rotate_left
  · have eo : Hid (out = []) := by show _ = _; rw [HO.out, if_neg (fun h => f0 h.2)]
    have d0 : (f == 0) = false := beq_eq_false_iff_ne.2 f0
    clear CC RG RW BH n1 RQ
    go_wp2
    go_ret
    exact ⟨⟨_, rfl, by rw [eo.out]; exact RowB.nil _ _⟩, N1⟩
  subst f0
  replace hb := hb rfl
  have eo : Hid (out = enL 1 bl) := by show _ = _; rw [HO.out, if_pos ⟨rfl, rfl⟩]
  have c0 : w1.cell? ⟨w.heap.size, 0, none⟩ = some (.int .i64 1) := (RW.up n1).cell 0
  have CB := hide (BH.out w1 q N1 RQ rfl rfl)
  clear CC RG RW BH n1 RQ hq
  go_wp2_with fail
  refine CB.out.mono ?_
  rintro e w2 ⟨⟨v2, rfl, R2⟩, n2⟩
  have N2 := nxt N1 n2
  have c2 := cellq n2 c0
  obtain ⟨a2, k2, g2, rfl, r2, z2, _, _⟩ := R2.rd
  have n3 : Below w2.heap.size w2 (w2.alloc (.cells #[.int .u8 1] 5)) := (Below.refl _ _).alloc (Nat.le_refl _) _
  have C4 := hide (appendNumber_any _ w2.heap.size _ _ (RowB.lit1 w2 1) n3.size (bl.length : Int) 3 (by decide) (by simp))
  have N3 := hide n3
  clear CB R2 n2 c0 N1 n3
  go_wp2_with fail
  refine C4.out.mono ?_
  rintro e w4 ⟨v4, rfl, R4, n4⟩
  have N4 : Below w2.heap.size w2 w4 := N3.out.trans n4
  obtain ⟨v5, w5, hap, R5, n5⟩ := append_any (P := Tryz.prog) w4 22 i0 Tryz.underlying22 hi hz0 hz1 hz2 w2.heap.size w2.heap.size _ _ R4 g2 a2 k2 bl (r2.up N4) z2 (by simp [bigL_len]; omega) (Nat.le_refl _) N4.size
  have N5 := nxt N2 (N4.trans n5)
  have S2 := N2.size
  have R6 := R5.base S2
  clear C4 R4 R5 n4 n5 N4 N3 r2 c2 S2
  go_wp2_with (at_builtin; refine Lib.wpList_append_run _ rfl _ _ 22 22 rfl _ _ rfl rfl _ _ hap ?_)
  go_ret
  exact ⟨⟨_, rfl, by rw [eo.out]; exact R6⟩, N5⟩
set_option maxRecDepth 100000 in
set_option maxHeartbeats 1000000 in
theorem encAnswer (w : World) (vs : Array Value) (x1 x2 x3 x4 x5 x6 x7 x8 x9 x10 x11 x12 : Value) (hv : vs = #[.int .i64 2, x1, x2, x3, x4, x5, x6, x7, x8, x9, x10, x11, x12]) (s : Bool) (fs : List Value) (f : Int) (bl : List Int) (hb : f = 0 → bl.length ≤ 536870912)
    (TO : ∀ W, Below w.heap.size w W → Calls Tryz.prog 16 #[.agg vs] W (TyP W s 77 79 fs f))
    (BD : ∀ W q, Below w.heap.size w W → RwC W q fs 79 → s = true → f = 0 → Calls Tryz.prog 114 #[.pointer (some ⟨q, 0, none⟩)] W (BodP W bl)) :
    Calls Tryz.prog 5 #[.agg vs] w (BodP w (if s = true ∧ f = 0 then enL 2 bl else [])) := by
  subst hv
  obtain ⟨out, ho⟩ : ∃ l, l = (if s = true ∧ f = 0 then enL 2 bl else []) := ⟨_, rfl⟩
  rw [← ho]
  have HO := hide ho
  clear ho
  obtain ⟨i0, hi, hz0, hz1, hz2⟩ := info_parts Tryz.info5
  have n0 : Below w.heap.size w (w.alloc (.cells #[.int .i64 2, x1, x2, x3, x4, x5, x6, x7, x8, x9, x10, x11, x12] 26)) := (Below.refl _ _).alloc (Nat.le_refl _) _
  have CC := hide (TO _ n0)
  have RW := RwC.new w [.int .i64 2, x1, x2, x3, x4, x5, x6, x7, x8, x9, x10, x11, x12] 26
  have RG := RwC.range RW
  obtain ⟨d13, hd13, hrow13⟩ := rowM
  have N0 := hide n0
  have BH := hide BD
  clear TO n0 BD
  go_enter Tryz.func5, Tryz.ntmps5
  go_wp2_with fail
  refine CC.out.mono ?_
  rintro e w1 ⟨h | h, n1⟩
  · obtain ⟨rfl, rfl⟩ := h
    have eo : Hid (out = []) := by show _ = _; rw [HO.out, if_neg (by simp)]
    have N1 := nxt N0.out n1
    clear CC RG RW BH n1
    go_wp2
    go_ret
    exact ⟨⟨_, rfl, by rw [eo.out]; exact RowB.nil _ _⟩, N1⟩
  obtain ⟨rfl, q, rfl, hq, RQ⟩ := h
  have N1 := nxt N0.out n1
  by_cases f0 : f = 0
  rotate_left
  · have eo : Hid (out = []) := by show _ = _; rw [HO.out, if_neg (fun h => f0 h.2)]
    have d0 : (f == 0) = false := beq_eq_false_iff_ne.2 f0
    clear CC RG RW BH n1 RQ
    go_wp2
    go_ret
    exact ⟨⟨_, rfl, by rw [eo.out]; exact RowB.nil _ _⟩, N1⟩
  subst f0
  replace hb := hb rfl
  have eo : Hid (out = enL 2 bl) := by show _ = _; rw [HO.out, if_pos ⟨rfl, rfl⟩]
  have c0 : w1.cell? ⟨w.heap.size, 0, none⟩ = some (.int .i64 2) := (RW.up n1).cell 0
  have CB := hide (BH.out w1 q N1 RQ rfl rfl)
  clear CC RG RW BH n1 RQ hq
  go_wp2_with fail
  refine CB.out.mono ?_
  rintro e w2 ⟨⟨v2, rfl, R2⟩, n2⟩
  have N2 := nxt N1 n2
  have c2 := cellq n2 c0
  obtain ⟨a2, k2, g2, rfl, r2, z2, _, _⟩ := R2.rd
  have n3 : Below w2.heap.size w2 (w2.alloc (.cells #[.int .u8 2] 5)) := (Below.refl _ _).alloc (Nat.le_refl _) _
  have C4 := hide (appendNumber_any _ w2.heap.size _ _ (RowB.lit1 w2 2) n3.size (bl.length : Int) 3 (by decide) (by simp))
  have N3 := hide n3
  clear CB R2 n2 c0 N1 n3
  go_wp2_with fail
  refine C4.out.mono ?_
  rintro e w4 ⟨v4, rfl, R4, n4⟩
  have N4 : Below w2.heap.size w2 w4 := N3.out.trans n4
  obtain ⟨v5, w5, hap, R5, n5⟩ := append_any (P := Tryz.prog) w4 22 i0 Tryz.underlying22 hi hz0 hz1 hz2 w2.heap.size w2.heap.size _ _ R4 g2 a2 k2 bl (r2.up N4) z2 (by simp [bigL_len]; omega) (Nat.le_refl _) N4.size
  have N5 := nxt N2 (N4.trans n5)
  have S2 := N2.size
  have R6 := R5.base S2
  clear C4 R4 R5 n4 n5 N4 N3 r2 c2 S2
  go_wp2_with (at_builtin; refine Lib.wpList_append_run _ rfl _ _ 22 22 rfl _ _ rfl rfl _ _ hap ?_)
  go_ret
  exact ⟨⟨_, rfl, by rw [eo.out]; exact R6⟩, N5⟩
set_option maxRecDepth 100000 in
set_option maxHeartbeats 1000000 in
theorem encTicket (w : World) (vs : Array Value) (x1 x2 x3 x4 x5 x6 x7 x8 x9 x10 x11 x12 : Value) (hv : vs = #[.int .i64 4, x1, x2, x3, x4, x5, x6, x7, x8, x9, x10, x11, x12]) (s : Bool) (fs : List Value) (f : Int) (bl : List Int) (hb : f = 0 → bl.length ≤ 536870912)
    (TO : ∀ W, Below w.heap.size w W → Calls Tryz.prog 16 #[.agg vs] W (TyP W s 80 82 fs f))
    (BD : ∀ W q, Below w.heap.size w W → RwC W q fs 82 → s = true → f = 0 → Calls Tryz.prog 117 #[.pointer (some ⟨q, 0, none⟩)] W (BodP W bl)) :
    Calls Tryz.prog 5 #[.agg vs] w (BodP w (if s = true ∧ f = 0 then enL 4 bl else [])) := by
  subst hv
  obtain ⟨out, ho⟩ : ∃ l, l = (if s = true ∧ f = 0 then enL 4 bl else []) := ⟨_, rfl⟩
  rw [← ho]
  have HO := hide ho
  clear ho
  obtain ⟨i0, hi, hz0, hz1, hz2⟩ := info_parts Tryz.info5
  have n0 : Below w.heap.size w (w.alloc (.cells #[.int .i64 4, x1, x2, x3, x4, x5, x6, x7, x8, x9, x10, x11, x12] 26)) := (Below.refl _ _).alloc (Nat.le_refl _) _
  have CC := hide (TO _ n0)
  have RW := RwC.new w [.int .i64 4, x1, x2, x3, x4, x5, x6, x7, x8, x9, x10, x11, x12] 26
  have RG := RwC.range RW
  obtain ⟨d13, hd13, hrow13⟩ := rowM
  have N0 := hide n0
  have BH := hide BD
  clear TO n0 BD
  go_enter Tryz.func5, Tryz.ntmps5
  go_wp2_with fail
  refine CC.out.mono ?_
  rintro e w1 ⟨h | h, n1⟩
  · obtain ⟨rfl, rfl⟩ := h
    have eo : Hid (out = []) := by show _ = _; rw [HO.out, if_neg (by simp)]
    have N1 := nxt N0.out n1
    clear CC RG RW BH n1
    go_wp2
    go_ret
    exact ⟨⟨_, rfl, by rw [eo.out]; exact RowB.nil _ _⟩, N1⟩
  obtain ⟨rfl, q, rfl, hq, RQ⟩ := h
  have N1 := nxt N0.out n1
  by_cases f0 : f = 0
  rotate_left
  · have eo : Hid (out = []) := by show _ = _; rw [HO.out, if_neg (fun h => f0 h.2)]
    have d0 : (f == 0) = false := beq_eq_false_iff_ne.2 f0
    clear CC RG RW BH n1 RQ
    go_wp2
    go_ret
    exact ⟨⟨_, rfl, by rw [eo.out]; exact RowB.nil _ _⟩, N1⟩
  subst f0
  replace hb := hb rfl
  have eo : Hid (out = enL 4 bl) := by show _ = _; rw [HO.out, if_pos ⟨rfl, rfl⟩]
  have c0 : w1.cell? ⟨w.heap.size, 0, none⟩ = some (.int .i64 4) := (RW.up n1).cell 0
  have CB := hide (BH.out w1 q N1 RQ rfl rfl)
  clear CC RG RW BH n1 RQ hq
  go_wp2_with fail
  refine CB.out.mono ?_
  rintro e w2 ⟨⟨v2, rfl, R2⟩, n2⟩
  have N2 := nxt N1 n2
  have c2 := cellq n2 c0
  obtain ⟨a2, k2, g2, rfl, r2, z2, _, _⟩ := R2.rd
  have n3 : Below w2.heap.size w2 (w2.alloc (.cells #[.int .u8 4] 5)) := (Below.refl _ _).alloc (Nat.le_refl _) _
  have C4 := hide (appendNumber_any _ w2.heap.size _ _ (RowB.lit1 w2 4) n3.size (bl.length : Int) 3 (by decide) (by simp))
  have N3 := hide n3
  clear CB R2 n2 c0 N1 n3
  go_wp2_with fail
  refine C4.out.mono ?_
  rintro e w4 ⟨v4, rfl, R4, n4⟩
  have N4 : Below w2.heap.size w2 w4 := N3.out.trans n4
  obtain ⟨v5, w5, hap, R5, n5⟩ := append_any (P := Tryz.prog) w4 22 i0 Tryz.underlying22 hi hz0 hz1 hz2 w2.heap.size w2.heap.size _ _ R4 g2 a2 k2 bl (r2.up N4) z2 (by simp [bigL_len]; omega) (Nat.le_refl _) N4.size
  have N5 := nxt N2 (N4.trans n5)
  have S2 := N2.size
  have R6 := R5.base S2
  clear C4 R4 R5 n4 n5 N4 N3 r2 c2 S2
  go_wp2_with (at_builtin; refine Lib.wpList_append_run _ rfl _ _ 22 22 rfl _ _ rfl rfl _ _ hap ?_)
  go_ret
  exact ⟨⟨_, rfl, by rw [eo.out]; exact R6⟩, N5⟩
set_option maxRecDepth 100000 in
set_option maxHeartbeats 1000000 in
theorem encEnd (w : World) (vs : Array Value) (x1 x2 x3 x4 x5 x6 x7 x8 x9 x10 x11 x12 : Value) (hv : vs = #[.int .i64 5, x1, x2, x3, x4, x5, x6, x7, x8, x9, x10, x11, x12]) (s : Bool) (fs : List Value) (f : Int) (bl : List Int) (hb : f = 0 → bl.length ≤ 536870912)
    (TO : ∀ W, Below w.heap.size w W → Calls Tryz.prog 16 #[.agg vs] W (TyP W s 83 85 fs f))
    (BD : ∀ W q, Below w.heap.size w W → RwC W q fs 85 → s = true → f = 0 → Calls Tryz.prog 121 #[.pointer (some ⟨q, 0, none⟩)] W (BodP W bl)) :
    Calls Tryz.prog 5 #[.agg vs] w (BodP w (if s = true ∧ f = 0 then enL 5 bl else [])) := by
  subst hv
  obtain ⟨out, ho⟩ : ∃ l, l = (if s = true ∧ f = 0 then enL 5 bl else []) := ⟨_, rfl⟩
  rw [← ho]
  have HO := hide ho
  clear ho
  obtain ⟨i0, hi, hz0, hz1, hz2⟩ := info_parts Tryz.info5
  have n0 : Below w.heap.size w (w.alloc (.cells #[.int .i64 5, x1, x2, x3, x4, x5, x6, x7, x8, x9, x10, x11, x12] 26)) := (Below.refl _ _).alloc (Nat.le_refl _) _
  have CC := hide (TO _ n0)
  have RW := RwC.new w [.int .i64 5, x1, x2, x3, x4, x5, x6, x7, x8, x9, x10, x11, x12] 26
  have RG := RwC.range RW
  obtain ⟨d13, hd13, hrow13⟩ := rowM
  have N0 := hide n0
  have BH := hide BD
  clear TO n0 BD
  go_enter Tryz.func5, Tryz.ntmps5
  go_wp2_with fail
  refine CC.out.mono ?_
  rintro e w1 ⟨h | h, n1⟩
  · obtain ⟨rfl, rfl⟩ := h
    have eo : Hid (out = []) := by show _ = _; rw [HO.out, if_neg (by simp)]
    have N1 := nxt N0.out n1
    clear CC RG RW BH n1
    go_wp2
    go_ret
    exact ⟨⟨_, rfl, by rw [eo.out]; exact RowB.nil _ _⟩, N1⟩
  obtain ⟨rfl, q, rfl, hq, RQ⟩ := h
  have N1 := nxt N0.out n1
  by_cases f0 : f = 0
  rotate_left
  · have eo : Hid (out = []) := by show _ = _; rw [HO.out, if_neg (fun h => f0 h.2)]
    have d0 : (f == 0) = false := beq_eq_false_iff_ne.2 f0
    clear CC RG RW BH n1 RQ
    go_wp2
    go_ret
    exact ⟨⟨_, rfl, by rw [eo.out]; exact RowB.nil _ _⟩, N1⟩
  subst f0
  replace hb := hb rfl
  have eo : Hid (out = enL 5 bl) := by show _ = _; rw [HO.out, if_pos ⟨rfl, rfl⟩]
  have c0 : w1.cell? ⟨w.heap.size, 0, none⟩ = some (.int .i64 5) := (RW.up n1).cell 0
  have CB := hide (BH.out w1 q N1 RQ rfl rfl)
  clear CC RG RW BH n1 RQ hq
  go_wp2_with fail
  refine CB.out.mono ?_
  rintro e w2 ⟨⟨v2, rfl, R2⟩, n2⟩
  have N2 := nxt N1 n2
  have c2 := cellq n2 c0
  obtain ⟨a2, k2, g2, rfl, r2, z2, _, _⟩ := R2.rd
  have n3 : Below w2.heap.size w2 (w2.alloc (.cells #[.int .u8 5] 5)) := (Below.refl _ _).alloc (Nat.le_refl _) _
  have C4 := hide (appendNumber_any _ w2.heap.size _ _ (RowB.lit1 w2 5) n3.size (bl.length : Int) 3 (by decide) (by simp))
  have N3 := hide n3
  clear CB R2 n2 c0 N1 n3
  go_wp2_with fail
  refine C4.out.mono ?_
  rintro e w4 ⟨v4, rfl, R4, n4⟩
  have N4 : Below w2.heap.size w2 w4 := N3.out.trans n4
  obtain ⟨v5, w5, hap, R5, n5⟩ := append_any (P := Tryz.prog) w4 22 i0 Tryz.underlying22 hi hz0 hz1 hz2 w2.heap.size w2.heap.size _ _ R4 g2 a2 k2 bl (r2.up N4) z2 (by simp [bigL_len]; omega) (Nat.le_refl _) N4.size
  have N5 := nxt N2 (N4.trans n5)
  have S2 := N2.size
  have R6 := R5.base S2
  clear C4 R4 R5 n4 n5 N4 N3 r2 c2 S2
  go_wp2_with (at_builtin; refine Lib.wpList_append_run _ rfl _ _ 22 22 rfl _ _ rfl rfl _ _ hap ?_)
  go_ret
  exact ⟨⟨_, rfl, by rw [eo.out]; exact R6⟩, N5⟩
set_option maxRecDepth 100000 in
set_option maxHeartbeats 1000000 in
theorem encExtras (w : World) (vs : Array Value) (x1 x2 x3 x4 x5 x6 x7 x8 x9 x10 x11 x12 : Value) (hv : vs = #[.int .i64 8, x1, x2, x3, x4, x5, x6, x7, x8, x9, x10, x11, x12]) (s : Bool) (fs : List Value) (f : Int) (bl : List Int) (hb : f = 0 → bl.length ≤ 536870912)
    (TO : ∀ W, Below w.heap.size w W → Calls Tryz.prog 16 #[.agg vs] W (TyP W s 86 88 fs f))
    (BD : ∀ W q, Below w.heap.size w W → RwC W q fs 88 → s = true → f = 0 → Calls Tryz.prog 125 #[.pointer (some ⟨q, 0, none⟩)] W (BodP W bl)) :
    Calls Tryz.prog 5 #[.agg vs] w (BodP w (if s = true ∧ f = 0 then enL 8 bl else [])) := by
  subst hv
  obtain ⟨out, ho⟩ : ∃ l, l = (if s = true ∧ f = 0 then enL 8 bl else []) := ⟨_, rfl⟩
  rw [← ho]
  have HO := hide ho
  clear ho
  obtain ⟨i0, hi, hz0, hz1, hz2⟩ := info_parts Tryz.info5
  have n0 : Below w.heap.size w (w.alloc (.cells #[.int .i64 8, x1, x2, x3, x4, x5, x6, x7, x8, x9, x10, x11, x12] 26)) := (Below.refl _ _).alloc (Nat.le_refl _) _
  have CC := hide (TO _ n0)
  have RW := RwC.new w [.int .i64 8, x1, x2, x3, x4, x5, x6, x7, x8, x9, x10, x11, x12] 26
  have RG := RwC.range RW
  obtain ⟨d13, hd13, hrow13⟩ := rowM
  have N0 := hide n0
  have BH := hide BD
  clear TO n0 BD
  go_enter Tryz.func5, Tryz.ntmps5
  go_wp2_with fail
  refine CC.out.mono ?_
  rintro e w1 ⟨h | h, n1⟩
  · obtain ⟨rfl, rfl⟩ := h
    have eo : Hid (out = []) := by show _ = _; rw [HO.out, if_neg (by simp)]
    have N1 := nxt N0.out n1
    clear CC RG RW BH n1
    go_wp2
    go_ret
    exact ⟨⟨_, rfl, by rw [eo.out]; exact RowB.nil _ _⟩, N1⟩
  obtain ⟨rfl, q, rfl, hq, RQ⟩ := h
  have N1 := nxt N0.out n1
  by_cases f0 : f = 0
  rotate_left
  · have eo : Hid (out = []) := by show _ = _; rw [HO.out, if_neg (fun h => f0 h.2)]
    have d0 : (f == 0) = false := beq_eq_false_iff_ne.2 f0
    clear CC RG RW BH n1 RQ
    go_wp2
    go_ret
    exact ⟨⟨_, rfl, by rw [eo.out]; exact RowB.nil _ _⟩, N1⟩
  subst f0
  replace hb := hb rfl
  have eo : Hid (out = enL 8 bl) := by show _ = _; rw [HO.out, if_pos ⟨rfl, rfl⟩]
  have c0 : w1.cell? ⟨w.heap.size, 0, none⟩ = some (.int .i64 8) := (RW.up n1).cell 0
  have CB := hide (BH.out w1 q N1 RQ rfl rfl)
  clear CC RG RW BH n1 RQ hq
  go_wp2_with fail
  refine CB.out.mono ?_
  rintro e w2 ⟨⟨v2, rfl, R2⟩, n2⟩
  have N2 := nxt N1 n2
  have c2 := cellq n2 c0
  obtain ⟨a2, k2, g2, rfl, r2, z2, _, _⟩ := R2.rd
  have n3 : Below w2.heap.size w2 (w2.alloc (.cells #[.int .u8 8] 5)) := (Below.refl _ _).alloc (Nat.le_refl _) _
  have C4 := hide (appendNumber_any _ w2.heap.size _ _ (RowB.lit1 w2 8) n3.size (bl.length : Int) 3 (by decide) (by simp))
  have N3 := hide n3
  clear CB R2 n2 c0 N1 n3
  go_wp2_with fail
  refine C4.out.mono ?_
  rintro e w4 ⟨v4, rfl, R4, n4⟩
  have N4 : Below w2.heap.size w2 w4 := N3.out.trans n4
  obtain ⟨v5, w5, hap, R5, n5⟩ := append_any (P := Tryz.prog) w4 22 i0 Tryz.underlying22 hi hz0 hz1 hz2 w2.heap.size w2.heap.size _ _ R4 g2 a2 k2 bl (r2.up N4) z2 (by simp [bigL_len]; omega) (Nat.le_refl _) N4.size
  have N5 := nxt N2 (N4.trans n5)
  have S2 := N2.size
  have R6 := R5.base S2
  clear C4 R4 R5 n4 n5 N4 N3 r2 c2 S2
  go_wp2_with (at_builtin; refine Lib.wpList_append_run _ rfl _ _ 22 22 rfl _ _ rfl rfl _ _ hap ?_)
  go_ret
  exact ⟨⟨_, rfl, by rw [eo.out]; exact R6⟩, N5⟩
set_option maxRecDepth 100000 in
set_option maxHeartbeats 1000000 in
theorem encCerts (w : World) (vs : Array Value) (x1 x2 x3 x4 x5 x6 x7 x8 x9 x10 x11 x12 : Value) (hv : vs = #[.int .i64 11, x1, x2, x3, x4, x5, x6, x7, x8, x9, x10, x11, x12]) (s : Bool) (fs : List Value) (f : Int) (bl : List Int) (hb : f = 0 → bl.length ≤ 536870912)
    (TO : ∀ W, Below w.heap.size w W → Calls Tryz.prog 16 #[.agg vs] W (TyP W s 89 91 fs f))
    (BD : ∀ W q, Below w.heap.size w W → RwC W q fs 91 → s = true → f = 0 → Calls Tryz.prog 129 #[.pointer (some ⟨q, 0, none⟩)] W (BodP W bl)) :
    Calls Tryz.prog 5 #[.agg vs] w (BodP w (if s = true ∧ f = 0 then enL 11 bl else [])) := by
  subst hv
  obtain ⟨out, ho⟩ : ∃ l, l = (if s = true ∧ f = 0 then enL 11 bl else []) := ⟨_, rfl⟩
  rw [← ho]
  have HO := hide ho
  clear ho
  obtain ⟨i0, hi, hz0, hz1, hz2⟩ := info_parts Tryz.info5
  have n0 : Below w.heap.size w (w.alloc (.cells #[.int .i64 11, x1, x2, x3, x4, x5, x6, x7, x8, x9, x10, x11, x12] 26)) := (Below.refl _ _).alloc (Nat.le_refl _) _
  have CC := hide (TO _ n0)
  have RW := RwC.new w [.int .i64 11, x1, x2, x3, x4, x5, x6, x7, x8, x9, x10, x11, x12] 26
  have RG := RwC.range RW
  obtain ⟨d13, hd13, hrow13⟩ := rowM
  have N0 := hide n0
  have BH := hide BD
  clear TO n0 BD
  go_enter Tryz.func5, Tryz.ntmps5
  go_wp2_with fail
  refine CC.out.mono ?_
  rintro e w1 ⟨h | h, n1⟩
  · obtain ⟨rfl, rfl⟩ := h
    have eo : Hid (out = []) := by show _ = _; rw [HO.out, if_neg (by simp)]
    have N1 := nxt N0.out n1
    clear CC RG RW BH n1
    go_wp2
    go_ret
    exact ⟨⟨_, rfl, by rw [eo.out]; exact RowB.nil _ _⟩, N1⟩
  obtain ⟨rfl, q, rfl, hq, RQ⟩ := h
  have N1 := nxt N0.out n1
  by_cases f0 : f = 0
  rotate_left
  · have eo : Hid (out = []) := by show _ = _; rw [HO.out, if_neg (fun h => f0 h.2)]
    have d0 : (f == 0) = false := beq_eq_false_iff_ne.2 f0
    clear CC RG RW BH n1 RQ
    go_wp2
    go_ret
    exact ⟨⟨_, rfl, by rw [eo.out]; exact RowB.nil _ _⟩, N1⟩
  subst f0
  replace hb := hb rfl
  have eo : Hid (out = enL 11 bl) := by show _ = _; rw [HO.out, if_pos ⟨rfl, rfl⟩]
  have c0 : w1.cell? ⟨w.heap.size, 0, none⟩ = some (.int .i64 11) := (RW.up n1).cell 0
  have CB := hide (BH.out w1 q N1 RQ rfl rfl)
  clear CC RG RW BH n1 RQ hq
  go_wp2_with fail
  refine CB.out.mono ?_
  rintro e w2 ⟨⟨v2, rfl, R2⟩, n2⟩
  have N2 := nxt N1 n2
  have c2 := cellq n2 c0
  obtain ⟨a2, k2, g2, rfl, r2, z2, _, _⟩ := R2.rd
  have n3 : Below w2.heap.size w2 (w2.alloc (.cells #[.int .u8 11] 5)) := (Below.refl _ _).alloc (Nat.le_refl _) _
  have C4 := hide (appendNumber_any _ w2.heap.size _ _ (RowB.lit1 w2 11) n3.size (bl.length : Int) 3 (by decide) (by simp))
  have N3 := hide n3
  clear CB R2 n2 c0 N1 n3
  go_wp2_with fail
  refine C4.out.mono ?_
  rintro e w4 ⟨v4, rfl, R4, n4⟩
  have N4 : Below w2.heap.size w2 w4 := N3.out.trans n4
  obtain ⟨v5, w5, hap, R5, n5⟩ := append_any (P := Tryz.prog) w4 22 i0 Tryz.underlying22 hi hz0 hz1 hz2 w2.heap.size w2.heap.size _ _ R4 g2 a2 k2 bl (r2.up N4) z2 (by simp [bigL_len]; omega) (Nat.le_refl _) N4.size
  have N5 := nxt N2 (N4.trans n5)
  have S2 := N2.size
  have R6 := R5.base S2
  clear C4 R4 R5 n4 n5 N4 N3 r2 c2 S2
  go_wp2_with (at_builtin; refine Lib.wpList_append_run _ rfl _ _ 22 22 rfl _ _ rfl rfl _ _ hap ?_)
  go_ret
  exact ⟨⟨_, rfl, by rw [eo.out]; exact R6⟩, N5⟩
set_option maxRecDepth 100000 in
set_option maxHeartbeats 1000000 in
theorem encProof (w : World) (vs : Array Value) (x1 x2 x3 x4 x5 x6 x7 x8 x9 x10 x11 x12 : Value) (hv : vs = #[.int .i64 15, x1, x2, x3, x4, x5, x6, x7, x8, x9, x10, x11, x12]) (s : Bool) (fs : List Value) (f : Int) (bl : List Int) (hb : f = 0 → bl.length ≤ 536870912)
    (TO : ∀ W, Below w.heap.size w W → Calls Tryz.prog 16 #[.agg vs] W (TyP W s 92 94 fs f))
    (BD : ∀ W q, Below w.heap.size w W → RwC W q fs 94 → s = true → f = 0 → Calls Tryz.prog 136 #[.pointer (some ⟨q, 0, none⟩)] W (BodP W bl)) :
    Calls Tryz.prog 5 #[.agg vs] w (BodP w (if s = true ∧ f = 0 then enL 15 bl else [])) := by
  subst hv
  obtain ⟨out, ho⟩ : ∃ l, l = (if s = true ∧ f = 0 then enL 15 bl else []) := ⟨_, rfl⟩
  rw [← ho]
  have HO := hide ho
  clear ho
  obtain ⟨i0, hi, hz0, hz1, hz2⟩ := info_parts Tryz.info5
  have n0 : Below w.heap.size w (w.alloc (.cells #[.int .i64 15, x1, x2, x3, x4, x5, x6, x7, x8, x9, x10, x11, x12] 26)) := (Below.refl _ _).alloc (Nat.le_refl _) _
  have CC := hide (TO _ n0)
  have RW := RwC.new w [.int .i64 15, x1, x2, x3, x4, x5, x6, x7, x8, x9, x10, x11, x12] 26
  have RG := RwC.range RW
  obtain ⟨d13, hd13, hrow13⟩ := rowM
  have N0 := hide n0
  have BH := hide BD
  clear TO n0 BD
  go_enter Tryz.func5, Tryz.ntmps5
  go_wp2_with fail
  refine CC.out.mono ?_
  rintro e w1 ⟨h | h, n1⟩
  · obtain ⟨rfl, rfl⟩ := h
    have eo : Hid (out = []) := by show _ = _; rw [HO.out, if_neg (by simp)]
    have N1 := nxt N0.out n1
    clear CC RG RW BH n1
    go_wp2
    go_ret
    exact ⟨⟨_, rfl, by rw [eo.out]; exact RowB.nil _ _⟩, N1⟩
  obtain ⟨rfl, q, rfl, hq, RQ⟩ := h
  have N1 := nxt N0.out n1
  by_cases f0 : f = 0
  rotate_left
  · have eo : Hid (out = []) := by show _ = _; rw [HO.out, if_neg (fun h => f0 h.2)]
    have d0 : (f == 0) = false := beq_eq_false_iff_ne.2 f0
    clear CC RG RW BH n1 RQ
    go_wp2
    go_ret
    exact ⟨⟨_, rfl, by rw [eo.out]; exact RowB.nil _ _⟩, N1⟩
  subst f0
  replace hb := hb rfl
  have eo : Hid (out = enL 15 bl) := by show _ = _; rw [HO.out, if_pos ⟨rfl, rfl⟩]
  have c0 : w1.cell? ⟨w.heap.size, 0, none⟩ = some (.int .i64 15) := (RW.up n1).cell 0
  have CB := hide (BH.out w1 q N1 RQ rfl rfl)
  clear CC RG RW BH n1 RQ hq
  go_wp2_with fail
  refine CB.out.mono ?_
  rintro e w2 ⟨⟨v2, rfl, R2⟩, n2⟩
  have N2 := nxt N1 n2
  have c2 := cellq n2 c0
  obtain ⟨a2, k2, g2, rfl, r2, z2, _, _⟩ := R2.rd
  have n3 : Below w2.heap.size w2 (w2.alloc (.cells #[.int .u8 15] 5)) := (Below.refl _ _).alloc (Nat.le_refl _) _
  have C4 := hide (appendNumber_any _ w2.heap.size _ _ (RowB.lit1 w2 15) n3.size (bl.length : Int) 3 (by decide) (by simp))
  have N3 := hide n3
  clear CB R2 n2 c0 N1 n3
  go_wp2_with fail
  refine C4.out.mono ?_
  rintro e w4 ⟨v4, rfl, R4, n4⟩
  have N4 : Below w2.heap.size w2 w4 := N3.out.trans n4
  obtain ⟨v5, w5, hap, R5, n5⟩ := append_any (P := Tryz.prog) w4 22 i0 Tryz.underlying22 hi hz0 hz1 hz2 w2.heap.size w2.heap.size _ _ R4 g2 a2 k2 bl (r2.up N4) z2 (by simp [bigL_len]; omega) (Nat.le_refl _) N4.size
  have N5 := nxt N2 (N4.trans n5)
  have S2 := N2.size
  have R6 := R5.base S2
  clear C4 R4 R5 n4 n5 N4 N3 r2 c2 S2
  go_wp2_with (at_builtin; refine Lib.wpList_append_run _ rfl _ _ 22 22 rfl _ _ rfl rfl _ _ hap ?_)
  go_ret
  exact ⟨⟨_, rfl, by rw [eo.out]; exact R6⟩, N5⟩
set_option maxRecDepth 100000 in
set_option maxHeartbeats 1000000 in
theorem encFinished (w : World) (vs : Array Value) (x1 x2 x3 x4 x5 x6 x7 x8 x9 x10 x11 x12 : Value) (hv : vs = #[.int .i64 20, x1, x2, x3, x4, x5, x6, x7, x8, x9, x10, x11, x12]) (s : Bool) (fs : List Value) (f : Int) (bl : List Int) (hb : f = 0 → bl.length ≤ 536870912)
    (TO : ∀ W, Below w.heap.size w W → Calls Tryz.prog 16 #[.agg vs] W (TyP W s 95 96 fs f))
    (BD : ∀ W q, Below w.heap.size w W → RwC W q fs 96 → s = true → f = 0 → Calls Tryz.prog 141 #[.pointer (some ⟨q, 0, none⟩)] W (BodP W bl)) :
    Calls Tryz.prog 5 #[.agg vs] w (BodP w (if s = true ∧ f = 0 then enL 20 bl else [])) := by
  subst hv
  obtain ⟨out, ho⟩ : ∃ l, l = (if s = true ∧ f = 0 then enL 20 bl else []) := ⟨_, rfl⟩
  rw [← ho]
  have HO := hide ho
  clear ho
  obtain ⟨i0, hi, hz0, hz1, hz2⟩ := info_parts Tryz.info5
  have n0 : Below w.heap.size w (w.alloc (.cells #[.int .i64 20, x1, x2, x3, x4, x5, x6, x7, x8, x9, x10, x11, x12] 26)) := (Below.refl _ _).alloc (Nat.le_refl _) _
  have CC := hide (TO _ n0)
  have RW := RwC.new w [.int .i64 20, x1, x2, x3, x4, x5, x6, x7, x8, x9, x10, x11, x12] 26
  have RG := RwC.range RW
  obtain ⟨d13, hd13, hrow13⟩ := rowM
  have N0 := hide n0
  have BH := hide BD
  clear TO n0 BD
  go_enter Tryz.func5, Tryz.ntmps5
  go_wp2_with fail
  refine CC.out.mono ?_
  rintro e w1 ⟨h | h, n1⟩
  · obtain ⟨rfl, rfl⟩ := h
    have eo : Hid (out = []) := by show _ = _; rw [HO.out, if_neg (by simp)]
    have N1 := nxt N0.out n1
    clear CC RG RW BH n1
    go_wp2
    go_ret
    exact ⟨⟨_, rfl, by rw [eo.out]; exact RowB.nil _ _⟩, N1⟩
  obtain ⟨rfl, q, rfl, hq, RQ⟩ := h
  have N1 := nxt N0.out n1
  by_cases f0 : f = 0
  rotate_left
  · have eo : Hid (out = []) := by show _ = _; rw [HO.out, if_neg (fun h => f0 h.2)]
    have d0 : (f == 0) = false := beq_eq_false_iff_ne.2 f0
    clear CC RG RW BH n1 RQ
    go_wp2
    go_ret
    exact ⟨⟨_, rfl, by rw [eo.out]; exact RowB.nil _ _⟩, N1⟩
  subst f0
  replace hb := hb rfl
  have eo : Hid (out = enL 20 bl) := by show _ = _; rw [HO.out, if_pos ⟨rfl, rfl⟩]
  have c0 : w1.cell? ⟨w.heap.size, 0, none⟩ = some (.int .i64 20) := (RW.up n1).cell 0
  have CB := hide (BH.out w1 q N1 RQ rfl rfl)
  clear CC RG RW BH n1 RQ hq
  go_wp2_with fail
  refine CB.out.mono ?_
  rintro e w2 ⟨⟨v2, rfl, R2⟩, n2⟩
  have N2 := nxt N1 n2
  have c2 := cellq n2 c0
  obtain ⟨a2, k2, g2, rfl, r2, z2, _, _⟩ := R2.rd
  have n3 : Below w2.heap.size w2 (w2.alloc (.cells #[.int .u8 20] 5)) := (Below.refl _ _).alloc (Nat.le_refl _) _
  have C4 := hide (appendNumber_any _ w2.heap.size _ _ (RowB.lit1 w2 20) n3.size (bl.length : Int) 3 (by decide) (by simp))
  have N3 := hide n3
  clear CB R2 n2 c0 N1 n3
  go_wp2_with fail
  refine C4.out.mono ?_
  rintro e w4 ⟨v4, rfl, R4, n4⟩
  have N4 : Below w2.heap.size w2 w4 := N3.out.trans n4
  obtain ⟨v5, w5, hap, R5, n5⟩ := append_any (P := Tryz.prog) w4 22 i0 Tryz.underlying22 hi hz0 hz1 hz2 w2.heap.size w2.heap.size _ _ R4 g2 a2 k2 bl (r2.up N4) z2 (by simp [bigL_len]; omega) (Nat.le_refl _) N4.size
  have N5 := nxt N2 (N4.trans n5)
  have S2 := N2.size
  have R6 := R5.base S2
  clear C4 R4 R5 n4 n5 N4 N3 r2 c2 S2
  go_wp2_with (at_builtin; refine Lib.wpList_append_run _ rfl _ _ 22 22 rfl _ _ rfl rfl _ _ hap ?_)
  go_ret
  exact ⟨⟨_, rfl, by rw [eo.out]; exact R6⟩, N5⟩
set_option maxRecDepth 100000 in
set_option maxHeartbeats 1000000 in
theorem encUpdate (w : World) (vs : Array Value) (x1 x2 x3 x4 x5 x6 x7 x8 x9 x10 x11 x12 : Value) (hv : vs = #[.int .i64 24, x1, x2, x3, x4, x5, x6, x7, x8, x9, x10, x11, x12]) (s : Bool) (fs : List Value) (f : Int) (bl : List Int) (hb : f = 0 → bl.length ≤ 536870912)
    (TO : ∀ W, Below w.heap.size w W → Calls Tryz.prog 16 #[.agg vs] W (TyP W s 97 99 fs f))
    (BD : ∀ W q, Below w.heap.size w W → RwC W q fs 99 → s = true → f = 0 → Calls Tryz.prog 145 #[.pointer (some ⟨q, 0, none⟩)] W (BodP W bl)) :
    Calls Tryz.prog 5 #[.agg vs] w (BodP w (if s = true ∧ f = 0 then enL 24 bl else [])) := by
  subst hv
  obtain ⟨out, ho⟩ : ∃ l, l = (if s = true ∧ f = 0 then enL 24 bl else []) := ⟨_, rfl⟩
  rw [← ho]
  have HO := hide ho
  clear ho
  obtain ⟨i0, hi, hz0, hz1, hz2⟩ := info_parts Tryz.info5
  have n0 : Below w.heap.size w (w.alloc (.cells #[.int .i64 24, x1, x2, x3, x4, x5, x6, x7, x8, x9, x10, x11, x12] 26)) := (Below.refl _ _).alloc (Nat.le_refl _) _
  have CC := hide (TO _ n0)
  have RW := RwC.new w [.int .i64 24, x1, x2, x3, x4, x5, x6, x7, x8, x9, x10, x11, x12] 26
  have RG := RwC.range RW
  obtain ⟨d13, hd13, hrow13⟩ := rowM
  have N0 := hide n0
  have BH := hide BD
  clear TO n0 BD
  go_enter Tryz.func5, Tryz.ntmps5
  go_wp2_with fail
  refine CC.out.mono ?_
  rintro e w1 ⟨h | h, n1⟩
  · obtain ⟨rfl, rfl⟩ := h
    have eo : Hid (out = []) := by show _ = _; rw [HO.out, if_neg (by simp)]
    have N1 := nxt N0.out n1
    clear CC RG RW BH n1
    go_wp2
    go_ret
    exact ⟨⟨_, rfl, by rw [eo.out]; exact RowB.nil _ _⟩, N1⟩
  obtain ⟨rfl, q, rfl, hq, RQ⟩ := h
  have N1 := nxt N0.out n1
  by_cases f0 : f = 0
  rotate_left
  · have eo : Hid (out = []) := by show _ = _; rw [HO.out, if_neg (fun h => f0 h.2)]
    have d0 : (f == 0) = false := beq_eq_false_iff_ne.2 f0
    clear CC RG RW BH n1 RQ
    go_wp2
    go_ret
    exact ⟨⟨_, rfl, by rw [eo.out]; exact RowB.nil _ _⟩, N1⟩
  subst f0
  replace hb := hb rfl
  have eo : Hid (out = enL 24 bl) := by show _ = _; rw [HO.out, if_pos ⟨rfl, rfl⟩]
  have c0 : w1.cell? ⟨w.heap.size, 0, none⟩ = some (.int .i64 24) := (RW.up n1).cell 0
  have CB := hide (BH.out w1 q N1 RQ rfl rfl)
  clear CC RG RW BH n1 RQ hq
  go_wp2_with fail
  refine CB.out.mono ?_
  rintro e w2 ⟨⟨v2, rfl, R2⟩, n2⟩
  have N2 := nxt N1 n2
  have c2 := cellq n2 c0
  obtain ⟨a2, k2, g2, rfl, r2, z2, _, _⟩ := R2.rd
  have n3 : Below w2.heap.size w2 (w2.alloc (.cells #[.int .u8 24] 5)) := (Below.refl _ _).alloc (Nat.le_refl _) _
  have C4 := hide (appendNumber_any _ w2.heap.size _ _ (RowB.lit1 w2 24) n3.size (bl.length : Int) 3 (by decide) (by simp))
  have N3 := hide n3
  clear CB R2 n2 c0 N1 n3
  go_wp2_with fail
  refine C4.out.mono ?_
  rintro e w4 ⟨v4, rfl, R4, n4⟩
  have N4 : Below w2.heap.size w2 w4 := N3.out.trans n4
  obtain ⟨v5, w5, hap, R5, n5⟩ := append_any (P := Tryz.prog) w4 22 i0 Tryz.underlying22 hi hz0 hz1 hz2 w2.heap.size w2.heap.size _ _ R4 g2 a2 k2 bl (r2.up N4) z2 (by simp [bigL_len]; omega) (Nat.le_refl _) N4.size
  have N5 := nxt N2 (N4.trans n5)
  have S2 := N2.size
  have R6 := R5.base S2
  clear C4 R4 R5 n4 n5 N4 N3 r2 c2 S2
  go_wp2_with (at_builtin; refine Lib.wpList_append_run _ rfl _ _ 22 22 rfl _ _ rfl rfl _ _ hap ?_)
  go_ret
  exact ⟨⟨_, rfl, by rw [eo.out]; exact R6⟩, N5⟩
end Go.Proofs.YtmmbkkfjiaoeiaaGreat
namespace Go.Proofs.YtmmbkkfjiaoeiaaGreat
open Go Go.RowKit
structure HasZ (p : MQ) (m : Msg) : Prop where
  z2 : p.a2 = none → p.c2 = 0
  z3 : p.a3 = none → p.c3 = 0
  z6 : p.a6 = none → p.c6 = 0
  z9 : p.a9 = none → p.c9 = 0
  z12 : p.a12 = none → p.c12 = 0
  zc : ∀ i, i < m.ce.length → (p.ps.getD i plb0).a = none → (p.ps.getD i plb0).c = 0
theorem rd_lt {w : World} {g : Nat} {a : Option Addr} {xs : List Int} (r : Rd w g a .u8 xs) : xs.length = 0 ∨ g < w.heap.size := by
  by_cases h0 : 0 < xs.length
  · obtain ⟨off, ha, hc⟩ := r h0
    exact .inr (block_lt_of_cell (hc 0 h0))
  · exact .inl (by omega)
theorem lstR_of {w : World} {g : Nat} {a : Option Addr} {c : Nat} {xs : List Int} (r : Rd w g a .u8 xs) (z : a = none → c = 0) (m : xs.length ≤ 1048576) : LstR w ⟨g, a, c, xs⟩ := ⟨r, z, m, rd_lt r⟩
theorem txsR_of {w : World} {g : Nat} {a : Option Addr} {ls : List (List UInt8)} (r : RdT w g a ls) (n : ls.length ≤ 8) (z : ∀ l ∈ ls, l.length ≤ 1048576) : TxsR w g a ls := ⟨r, n, z, by
  by_cases h0 : 0 < ls.length
  · exact .inr (r.lt h0)
  · exact .inl (by omega)⟩
theorem ctsR_of {w : World} {g : Nat} {a : Option Addr} {bs : List (List Int)} {ps : List Plb} (r : RdL w g a bs ps) (n : bs.length ≤ 4) (z : ∀ i, i < bs.length → (bs.getD i []).length ≤ 1048576) (y : ∀ i, i < bs.length → (ps.getD i plb0).a = none → (ps.getD i plb0).c = 0) : CtsR w g a bs ps := ⟨r, n, z, y, fun i hi => rd_lt (r.b i hi)⟩
theorem pr_len {ls : List (List UInt8)} {n : Nat} (h : prB ls n ≠ false) : ls.length ≤ n := by
  unfold prB at h
  rw [Bool.ne_false_iff, Bool.and_eq_true] at h
  simpa using h.1
theorem he_pr {v : Int} {r s : Nat} {ho : List UInt8} {ls : List (List UInt8)} {t b : Nat} {g e : Int} (h : heF v r s ho ls t b g e = 0) : ls.length ≤ 8 := by
  unfold heF at h
  refine pr_len fun c => ?_
  rw [c] at h
  revert h
  split
  · simp
  · split
    · simp
    · simp
theorem ex_pr {ls : List (List UInt8)} {e : Int} (h : exF ls e = 0) : ls.length ≤ 8 := by
  unfold exF at h
  refine Nat.le_trans (pr_len (n := 1) fun c => ?_) (by decide)
  rw [c] at h
  simp at h
theorem ce_n {bs : List (List Int)} (h : ceF bs = 0) : bs.length ≤ 4 := by
  unfold ceF at h
  by_cases c : 4 < bs.length
  · rw [if_neg (by omega), if_pos c] at h
    simp at h
  · omega
theorem clL_len {bs : List (List Int)} (n : bs.length ≤ 4) (z : ∀ i, i < bs.length → (bs.getD i []).length ≤ 1048576) : (clL bs).length ≤ 536870912 := by
  have := lo_sum bs 1048576 z bs.length
  rw [List.take_of_length_le (by simp)] at this
  have : bs.length * (1048576 + 2) ≤ 4 * (1048576 + 2) := Nat.mul_le_mul_right _ n
  unfold clL
  rw [List.length_append]
  simp only [List.length_cons, List.length_nil]
  omega
theorem heL_len {v : Int} {r s : List Int} {ho : List UInt8} {pr : List (List UInt8)} {t : List Int} {ag ea : Int} {b : List Int} (h1 : r.length ≤ 1048576) (h2 : s.length ≤ 1048576) (h3 : ho.length ≤ 1048576) (h4 : pr.length ≤ 8) (h5 : ∀ l ∈ pr, l.length ≤ 1048576) (h6 : t.length ≤ 1048576) (h7 : b.length ≤ 1048576) : (heL v r s ho pr t ag ea b).length ≤ 536870912 := by
  have := lsL_len pr h4 h5
  have : (bdL t ag ea b).length ≤ 1048581 := by
    unfold bdL
    split
    · simp
    · simp only [List.length_append, bigL_len]; omega
  unfold heL
  simp only [List.length_append, fpL_len, shL_len, loL_len]
  omega
set_option maxRecDepth 100000 in
theorem implEncHello (w : World) (p : MQ) (k v : Int) (r s : List Int) (ho : List UInt8) (pr : List (List UInt8)) (ti : List Int) (ag ea : Int) (bi : List Int) (rs : Bool) (ce : List (List Int)) (pf : List Int) (h : HasM w p ⟨k, v, r, s, ho, pr, ti, ag, ea, bi, rs, ce, pf⟩) (i : IsM ⟨k, v, r, s, ho, pr, ti, ag, ea, bi, rs, ce, pf⟩) (z : HasZ p ⟨k, v, r, s, ho, pr, ti, ag, ea, bi, rs, ce, pf⟩) (hk : k = 1) :
    Calls Tryz.prog 5 #[.agg (mgV p ⟨k, v, r, s, ho, pr, ti, ag, ea, bi, rs, ce, pf⟩)] w (BodP w (if sameM (helloM ⟨k, v, r, s, ho, pr, ti, ag, ea, bi, rs, ce, pf⟩) ⟨k, v, r, s, ho, pr, ti, ag, ea, bi, rs, ce, pf⟩ = true ∧ heF v r.length s.length ho pr ti.length bi.length ag ea = 0 then enL 1 (heL v r s ho pr ti ag ea bi) else [])) := by
  subst hk
  exact encHello w _ _ _ _ _ _ _ _ _ _ _ _ _ rfl _ _ _ (heL v r s ho pr ti ag ea bi) (fun f0 => heL_len i.rL i.sL i.hoL (he_pr f0) i.prZ i.tiL i.biL) (fun W n => typedHello_any W p _ (h.up n) i rfl) (fun W q n R _ f0 => helloBody_any W q v ⟨p.g2, p.a2, p.c2, r⟩ ⟨p.g3, p.a3, p.c3, s⟩ ⟨p.g6, p.a6, p.c6, ti⟩ ⟨p.g9, p.a9, p.c9, bi⟩ ho p.g5 p.a5 p.c5 pr ag ea (R.cell 0) (R.cell 1) (R.cell 2) (R.cell 3) (R.cell 4) (R.cell 5) (R.cell 6) (R.cell 7) (R.cell 8) (lstR_of (h.up n).r z.z2 i.rL) (lstR_of (h.up n).s z.z3 i.sL) (lstR_of (h.up n).ti z.z6 i.tiL) (lstR_of (h.up n).bi z.z9 i.biL) (txsR_of (h.up n).pr (he_pr f0) i.prZ) i.hoL)
set_option maxRecDepth 100000 in
theorem implEncAnswer (w : World) (p : MQ) (k v : Int) (r s : List Int) (ho : List UInt8) (pr : List (List UInt8)) (ti : List Int) (ag ea : Int) (bi : List Int) (rs : Bool) (ce : List (List Int)) (pf : List Int) (h : HasM w p ⟨k, v, r, s, ho, pr, ti, ag, ea, bi, rs, ce, pf⟩) (i : IsM ⟨k, v, r, s, ho, pr, ti, ag, ea, bi, rs, ce, pf⟩) (z : HasZ p ⟨k, v, r, s, ho, pr, ti, ag, ea, bi, rs, ce, pf⟩) (hk : k = 2) :
    Calls Tryz.prog 5 #[.agg (mgV p ⟨k, v, r, s, ho, pr, ti, ag, ea, bi, rs, ce, pf⟩)] w (BodP w (if sameM (answerM ⟨k, v, r, s, ho, pr, ti, ag, ea, bi, rs, ce, pf⟩) ⟨k, v, r, s, ho, pr, ti, ag, ea, bi, rs, ce, pf⟩ = true ∧ fpF v r.length s.length = 0 then enL 2 (fpL v r s ++ [if rs = true then 1 else 0]) else [])) := by
  subst hk
  exact encAnswer w _ _ _ _ _ _ _ _ _ _ _ _ _ rfl _ _ _ (fpL v r s ++ [if rs = true then 1 else 0]) (fun _ => by have a1 : r.length ≤ 1048576 := i.rL; have a2 : s.length ≤ 1048576 := i.sL; rw [List.length_append, fpL_len]; simp only [List.length_cons, List.length_nil]; omega) (fun W n => typedAnswer_any W p _ (h.up n) i rfl) (fun W q n R _ _ => answerBody_any W q v ⟨p.g2, p.a2, p.c2, r⟩ ⟨p.g3, p.a3, p.c3, s⟩ rs (R.cell 0) (R.cell 1) (R.cell 2) (R.cell 3) (lstR_of (h.up n).r z.z2 i.rL) (lstR_of (h.up n).s z.z3 i.sL))
set_option maxRecDepth 100000 in
theorem implEncTicket (w : World) (p : MQ) (k v : Int) (r s : List Int) (ho : List UInt8) (pr : List (List UInt8)) (ti : List Int) (ag ea : Int) (bi : List Int) (rs : Bool) (ce : List (List Int)) (pf : List Int) (h : HasM w p ⟨k, v, r, s, ho, pr, ti, ag, ea, bi, rs, ce, pf⟩) (i : IsM ⟨k, v, r, s, ho, pr, ti, ag, ea, bi, rs, ce, pf⟩) (z : HasZ p ⟨k, v, r, s, ho, pr, ti, ag, ea, bi, rs, ce, pf⟩) (hk : k = 4) :
    Calls Tryz.prog 5 #[.agg (mgV p ⟨k, v, r, s, ho, pr, ti, ag, ea, bi, rs, ce, pf⟩)] w (BodP w (if sameM (ticketM ⟨k, v, r, s, ho, pr, ti, ag, ea, bi, rs, ce, pf⟩) ⟨k, v, r, s, ho, pr, ti, ag, ea, bi, rs, ce, pf⟩ = true ∧ tiF ag ea r.length ti.length = 0 then enL 4 (tkL ag ea r ti) else [])) := by
  subst hk
  exact encTicket w _ _ _ _ _ _ _ _ _ _ _ _ _ rfl _ _ _ (tkL ag ea r ti) (fun _ => by have a1 : r.length ≤ 1048576 := i.rL; have a2 : ti.length ≤ 1048576 := i.tiL; unfold tkL; simp only [List.length_append, bigL_len, loL_len]; omega) (fun W n => typedTicket_any W p _ (h.up n) i rfl) (fun W q n R _ _ => ticketBody_any W q ag ea ⟨p.g2, p.a2, p.c2, r⟩ ⟨p.g6, p.a6, p.c6, ti⟩ (R.cell 0) (R.cell 1) (R.cell 2) (R.cell 3) (lstR_of (h.up n).r z.z2 i.rL) (lstR_of (h.up n).ti z.z6 i.tiL))
set_option maxRecDepth 100000 in
theorem implEncEnd (w : World) (p : MQ) (k v : Int) (r s : List Int) (ho : List UInt8) (pr : List (List UInt8)) (ti : List Int) (ag ea : Int) (bi : List Int) (rs : Bool) (ce : List (List Int)) (pf : List Int) (h : HasM w p ⟨k, v, r, s, ho, pr, ti, ag, ea, bi, rs, ce, pf⟩) (i : IsM ⟨k, v, r, s, ho, pr, ti, ag, ea, bi, rs, ce, pf⟩) (_z : HasZ p ⟨k, v, r, s, ho, pr, ti, ag, ea, bi, rs, ce, pf⟩) (hk : k = 5) :
    Calls Tryz.prog 5 #[.agg (mgV p ⟨k, v, r, s, ho, pr, ti, ag, ea, bi, rs, ce, pf⟩)] w (BodP w (if sameM (endM ⟨k, v, r, s, ho, pr, ti, ag, ea, bi, rs, ce, pf⟩) ⟨k, v, r, s, ho, pr, ti, ag, ea, bi, rs, ce, pf⟩ = true ∧ (0 : Int) = 0 then enL 5 ([]) else [])) := by
  subst hk
  exact encEnd w _ _ _ _ _ _ _ _ _ _ _ _ _ rfl _ _ _ ([]) (fun _ => by simp) (fun W n => typedEnd_any W p _ (h.up n) i rfl) (fun W _ _ _ _ _ => endBody_any W _)
set_option maxRecDepth 100000 in
theorem implEncExtras (w : World) (p : MQ) (k v : Int) (r s : List Int) (ho : List UInt8) (pr : List (List UInt8)) (ti : List Int) (ag ea : Int) (bi : List Int) (rs : Bool) (ce : List (List Int)) (pf : List Int) (h : HasM w p ⟨k, v, r, s, ho, pr, ti, ag, ea, bi, rs, ce, pf⟩) (i : IsM ⟨k, v, r, s, ho, pr, ti, ag, ea, bi, rs, ce, pf⟩) (_z : HasZ p ⟨k, v, r, s, ho, pr, ti, ag, ea, bi, rs, ce, pf⟩) (hk : k = 8) :
    Calls Tryz.prog 5 #[.agg (mgV p ⟨k, v, r, s, ho, pr, ti, ag, ea, bi, rs, ce, pf⟩)] w (BodP w (if sameM (extrasM ⟨k, v, r, s, ho, pr, ti, ag, ea, bi, rs, ce, pf⟩) ⟨k, v, r, s, ho, pr, ti, ag, ea, bi, rs, ce, pf⟩ = true ∧ exF pr ea = 0 then enL 8 (lsL pr ++ bigL ea 1) else [])) := by
  subst hk
  exact encExtras w _ _ _ _ _ _ _ _ _ _ _ _ _ rfl _ _ _ (lsL pr ++ bigL ea 1) (fun f0 => by have a1 := lsL_len pr (ex_pr f0) i.prZ; rw [List.length_append, bigL_len]; omega) (fun W n => typedExtras_any W p _ (h.up n) i rfl) (fun W q n R _ f0 => extrasBody_any W q p.g5 p.a5 p.c5 pr ea (R.cell 0) (R.cell 1) (txsR_of (h.up n).pr (ex_pr f0) i.prZ))
set_option maxRecDepth 100000 in
theorem implEncCerts (w : World) (p : MQ) (k v : Int) (r s : List Int) (ho : List UInt8) (pr : List (List UInt8)) (ti : List Int) (ag ea : Int) (bi : List Int) (rs : Bool) (ce : List (List Int)) (pf : List Int) (h : HasM w p ⟨k, v, r, s, ho, pr, ti, ag, ea, bi, rs, ce, pf⟩) (i : IsM ⟨k, v, r, s, ho, pr, ti, ag, ea, bi, rs, ce, pf⟩) (z : HasZ p ⟨k, v, r, s, ho, pr, ti, ag, ea, bi, rs, ce, pf⟩) (hk : k = 11) :
    Calls Tryz.prog 5 #[.agg (mgV p ⟨k, v, r, s, ho, pr, ti, ag, ea, bi, rs, ce, pf⟩)] w (BodP w (if sameM (certsM ⟨k, v, r, s, ho, pr, ti, ag, ea, bi, rs, ce, pf⟩) ⟨k, v, r, s, ho, pr, ti, ag, ea, bi, rs, ce, pf⟩ = true ∧ ceF ce = 0 then enL 11 (clL ce) else [])) := by
  subst hk
  exact encCerts w _ _ _ _ _ _ _ _ _ _ _ _ _ rfl _ _ _ (clL ce) (fun f0 => clL_len (ce_n f0) i.ceZ) (fun W n => typedCerts_any W p _ (h.up n) i rfl) (fun W q n R _ f0 => certsBody_any W q p.g11 p.a11 p.c11 ce p.ps (R.cell 0) (ctsR_of (h.up n).ce (ce_n f0) i.ceZ z.zc))
set_option maxRecDepth 100000 in
theorem implEncProof (w : World) (p : MQ) (k v : Int) (r s : List Int) (ho : List UInt8) (pr : List (List UInt8)) (ti : List Int) (ag ea : Int) (bi : List Int) (rs : Bool) (ce : List (List Int)) (pf : List Int) (h : HasM w p ⟨k, v, r, s, ho, pr, ti, ag, ea, bi, rs, ce, pf⟩) (i : IsM ⟨k, v, r, s, ho, pr, ti, ag, ea, bi, rs, ce, pf⟩) (z : HasZ p ⟨k, v, r, s, ho, pr, ti, ag, ea, bi, rs, ce, pf⟩) (hk : k = 15) :
    Calls Tryz.prog 5 #[.agg (mgV p ⟨k, v, r, s, ho, pr, ti, ag, ea, bi, rs, ce, pf⟩)] w (BodP w (if sameM (proofM ⟨k, v, r, s, ho, pr, ti, ag, ea, bi, rs, ce, pf⟩) ⟨k, v, r, s, ho, pr, ti, ag, ea, bi, rs, ce, pf⟩ = true ∧ pfF 64 pf.length = 0 then enL 15 (pf) else [])) := by
  subst hk
  exact encProof w _ _ _ _ _ _ _ _ _ _ _ _ _ rfl _ _ _ (pf) (fun _ => by have a1 : pf.length ≤ 1048576 := i.pfL; omega) (fun W n => typedProof_any W p _ (h.up n) i rfl) (fun W q n R _ _ => proofBody_any W q ⟨p.g12, p.a12, p.c12, pf⟩ (lstR_of (h.up n).pf z.z12 i.pfL) (R.cell 0))
set_option maxRecDepth 100000 in
theorem implEncFinished (w : World) (p : MQ) (k v : Int) (r s : List Int) (ho : List UInt8) (pr : List (List UInt8)) (ti : List Int) (ag ea : Int) (bi : List Int) (rs : Bool) (ce : List (List Int)) (pf : List Int) (h : HasM w p ⟨k, v, r, s, ho, pr, ti, ag, ea, bi, rs, ce, pf⟩) (i : IsM ⟨k, v, r, s, ho, pr, ti, ag, ea, bi, rs, ce, pf⟩) (z : HasZ p ⟨k, v, r, s, ho, pr, ti, ag, ea, bi, rs, ce, pf⟩) (hk : k = 20) :
    Calls Tryz.prog 5 #[.agg (mgV p ⟨k, v, r, s, ho, pr, ti, ag, ea, bi, rs, ce, pf⟩)] w (BodP w (if sameM (finishedM ⟨k, v, r, s, ho, pr, ti, ag, ea, bi, rs, ce, pf⟩) ⟨k, v, r, s, ho, pr, ti, ag, ea, bi, rs, ce, pf⟩ = true ∧ pfF 32 pf.length = 0 then enL 20 (pf) else [])) := by
  subst hk
  exact encFinished w _ _ _ _ _ _ _ _ _ _ _ _ _ rfl _ _ _ (pf) (fun _ => by have a1 : pf.length ≤ 1048576 := i.pfL; omega) (fun W n => typedFinished_any W p _ (h.up n) i rfl) (fun W q n R _ _ => finishedBody_any W q ⟨p.g12, p.a12, p.c12, pf⟩ (lstR_of (h.up n).pf z.z12 i.pfL) (R.cell 0))
set_option maxRecDepth 100000 in
theorem implEncUpdate (w : World) (p : MQ) (k v : Int) (r s : List Int) (ho : List UInt8) (pr : List (List UInt8)) (ti : List Int) (ag ea : Int) (bi : List Int) (rs : Bool) (ce : List (List Int)) (pf : List Int) (h : HasM w p ⟨k, v, r, s, ho, pr, ti, ag, ea, bi, rs, ce, pf⟩) (i : IsM ⟨k, v, r, s, ho, pr, ti, ag, ea, bi, rs, ce, pf⟩) (_z : HasZ p ⟨k, v, r, s, ho, pr, ti, ag, ea, bi, rs, ce, pf⟩) (hk : k = 24) :
    Calls Tryz.prog 5 #[.agg (mgV p ⟨k, v, r, s, ho, pr, ti, ag, ea, bi, rs, ce, pf⟩)] w (BodP w (if sameM (updateM ⟨k, v, r, s, ho, pr, ti, ag, ea, bi, rs, ce, pf⟩) ⟨k, v, r, s, ho, pr, ti, ag, ea, bi, rs, ce, pf⟩ = true ∧ upF ea = 0 then enL 24 (bigL ea 1) else [])) := by
  subst hk
  exact encUpdate w _ _ _ _ _ _ _ _ _ _ _ _ _ rfl _ _ _ (bigL ea 1) (fun _ => by rw [bigL_len]; omega) (fun W n => typedUpdate_any W p _ (h.up n) i rfl) (fun W q _ R _ _ => updateBody_any W q ea (R.cell 0))
end Go.Proofs.YtmmbkkfjiaoeiaaGreat
