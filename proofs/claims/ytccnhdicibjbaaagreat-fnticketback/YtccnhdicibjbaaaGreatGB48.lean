import Derived.Test.YtccnhdicibjbaaaGreatGB47
import Derived.Test.YtccnhdicibjbaaaGreatGB7
import Derived.Lib.ConvBytes
import Derived.Deep.RegionHeld3
import Derived.Test.YtccnhdicibjbaaaGreatGB3
import Derived.Deep.DeepCutAuto
import Derived.Test.YtccnhdicibjbaaaGreatGB46
import Derived.Lib.SlBytesConst
import Derived.Test.YtccnhdicibjbaaaGreatGB21
import Derived.ChangeKeysEq
import Derived.Test.YtccnhdicibjbaaaGreatGB31
namespace Go.Proofs.YtccnhdicibjbaaaGreat
open Go Go.RowKit
def TyB (w : World) (g : Nat) : Prop := ∃ cur, w.heap[g]? = some (.cells cur 5 (0, 0))
theorem TyB.of_made {w : World} {base g n : Nat} {xs : List Value} (h : w.ownsRow base 5 1 (.slice (some ⟨g, 0, none⟩) n n) n xs) : TyB w g := by
  rcases h.2 with ⟨h', _⟩ | ⟨g', cap', cur, h', _, hg, _⟩
  · simp at h'
  · simp only [Value.slice.injEq, Option.some.injEq, Addr.mk.injEq, and_true, true_and] at h'
    obtain ⟨rfl, rfl⟩ := h'
    exact ⟨cur, hg⟩
theorem TyB.set {w : World} {g : Nat} (h : TyB w g) (i : Nat) (v : Value) : TyB (w.setCell ⟨g, i, none⟩ v) g := by
  obtain ⟨cur, h⟩ := h
  exact ⟨_, heap_setCell_same w g i _ 5 _ h⟩
theorem RowB.of_tyb {w : World} {g B : Nat} {ys : List Int} (h : Blk w g .u8 ys) (t : TyB w g) (hB : B ≤ g) (hl : ys.length ≤ 1048576) : RowB w B (.slice (some ⟨g, 0, none⟩) ys.length ys.length) ys := by
  obtain ⟨e, h⟩ := h
  obtain ⟨cur, t⟩ := t
  rw [t] at h
  simp only [Option.some.injEq, Obj.cells.injEq, and_true] at h
  obtain ⟨rfl, rfl⟩ := h
  refine ⟨by simp, .inr ⟨g, ys.length, _, rfl, hB, t, Nat.le_refl _, by unfold maxLen; omega, by simp, ?_⟩⟩
  show List.take (ys.length * 1) (List.map (Value.int .u8) ys) = _
  exact List.take_of_length_le (by simp)
set_option maxHeartbeats 1000000 in
theorem l1BigB_any (w : World) (v : Int) (t : Nat) (h0 : 0 ≤ v) (h1 : v < 9223372036854775808) (ht : t ≤ 1048576) :
    Calls Tryz.prog 54 #[.int .i64 v, .int .i64 (t : Int)] w fun e w' => e = .returned (.slice (some ⟨w.heap.size, 0, none⟩) t t) ∧ RowB w' w.heap.size (.slice (some ⟨w.heap.size, 0, none⟩) t t) (bigL v t) ∧ Below w.heap.size w w' := by
  obtain ⟨i0, hi, hz0, hz1, hz2⟩ := info_parts Tryz.info5
  go_enter Tryz.func54, Tryz.ntmps54
  go_wp2_with (at_make; refine wpList_make_full _ rfl _ _ 22 rfl w.heap.size 5 i0 (.int .u8 0) 1 Tryz.underlying22 hi hz0 hz1 .i64 .i64 _ _ t rfl rfl rfl rfl (by rw [hz2]; omega) (by unfold maxLen; omega) (Nat.le_refl _) ?_; intro w1 hown hgrow)
  have hB0 := Blk.of_made hown
  have T0 := TyB.of_made hown
  have hN0 : Below w.heap.size w w1 := (Below.refl _ _).grown hgrow (Nat.le_refl _) (by simp)
  clear hown hgrow
  go_loopw [0, 6] (fun q i wr => ∃ (k : Nat) (u j : Int) (ys : List Int), k ≤ t ∧ q = .int .i64 u ∧ i = .int .i64 j ∧ j + (k : Int) + 1 = (t : Int) ∧ 0 ≤ u ∧ u < 9223372036854775808 ∧ Hid (u = v / 256 ^ k) ∧ BigTo v t ys k ∧ Blk wr w.heap.size .u8 ys ∧ TyB wr w.heap.size ∧ Below w.heap.size w wr) (fun _ i _ => (intOf i + 1).toNat)
  case atStart => exact ⟨0, v, (t : Int) - 1, _, Nat.zero_le _, rfl, by go_num, by omega, h0, h1, by show _ = _; simp, BigTo.zero v t, hB0, T0, hN0⟩
  case round =>
    obtain ⟨k, u, j, ys, hk, rfl, rfl, hj, u0, u1, hu, hT, hB, hTy, hN⟩ := hrel
    by_cases hlt : 0 ≤ j
    · obtain ⟨p, rfl⟩ := Int.eq_ofNat_of_zero_le hlt
      have R := hT.step (by omega)
      rw [show t - 1 - k = p by omega, ← hu.out] at R
      have hl : p < ys.length := by rw [hT.1]; omega
      have hcy := hB.cell hl
      have hfy := hB.free p
      have hB' := hB.store p (u % 256)
      have hTy' := hTy.set p (.int .u8 (u % 256))
      have hN' : Below w.heap.size w (wr.setCell ⟨w.heap.size, p, none⟩ (.int .u8 (u % 256))) := hN.setCell (Nat.le_refl _) _
      have hu' : Hid (u / 256 = v / 256 ^ (k + 1)) := by show _ = _; rw [hu.out, div256]
      have p1 : (p : Int) < (t : Int) := by omega
      have HJ := hide hj
      clear hB hN hu hT hj
      go_wp2
      go_roundw
      case rel => exact ⟨k + 1, u / 256, (p : Int) - 1, _, by have := HJ.out; omega, by go_num, by go_num, by have := HJ.out; omega, by omega, by omega, hu', R, hB', hTy', hN'⟩
      case measure => simp [intOf]
    · obtain rfl : k = t := by omega
      have K := hide hT.all
      obtain rfl : j = -1 := by omega
      clear hj hu hT
      go_wp2
      go_ret
      have RB := RowB.of_tyb (B := w.heap.size) hB hTy (Nat.le_refl _) (by rw [K.out, bigL_len]; exact ht)
      rw [K.out, bigL_len] at RB
      exact ⟨rfl, RB, hN⟩
set_option maxHeartbeats 1000000 in
theorem l1CopyN_any (w : World) (g : Nat) (a : Option Addr) (c : Nat) (xs : List Int) (hr : Rd w g a .u8 xs) (hc : a = none → c = 0) (hn : xs.length ≤ 1099511627776) :
    Calls Tryz.prog 30 #[.slice a xs.length c] w fun e w' => ∃ v, e = .returned v ∧ RowB w' w.heap.size v xs ∧ Below w.heap.size w w' := by
  obtain ⟨i0, hi, hz0, hz1, hz2⟩ := info_parts Tryz.info5
  have hal : Below w.heap.size w (w.alloc (.cells #[] 5)) := (Below.refl _ _).alloc (Nat.le_refl _) _
  obtain ⟨v', w2, hap, o2, n2⟩ := append_any (P := Tryz.prog) (w.alloc (.cells #[] 5)) 22 i0 Tryz.underlying22 hi hz0 hz1 hz2 w.heap.size w.heap.size _ [] (RowB.lit0 w) g a c xs (hr.up hal) hc (by simp; omega) (Nat.le_refl _) (by simp)
  rw [List.nil_append] at o2
  go_enter Tryz.func30, Tryz.ntmps30
  go_wp2_with (at_builtin; refine Lib.wpList_append_run _ rfl _ _ 22 22 rfl _ _ rfl rfl _ _ hap ?_)
  go_ret
  exact ⟨_, rfl, o2, hal.trans n2⟩
end Go.Proofs.YtccnhdicibjbaaaGreat
namespace Go.Proofs.YtccnhdicibjbaaaGreat
open Go Go.RowKit
set_option maxRecDepth 100000 in
theorem convT (w : World) (l : List UInt8) : ∃ (c : Nat) (w' : World), (convert 9 22 (.string ⟨⟨l⟩⟩)).run Tryz.prog w = .ok (.slice (some ⟨w.heap.size, 0, none⟩) l.length c) w' ∧ Rd w' w.heap.size (some ⟨w.heap.size, 0, none⟩) .u8 (txL l) ∧ l.length ≤ c ∧ Below w.heap.size w w' := by
  refine ⟨_, _, Lib.run_convert_string_bytes w 9 22 5 ⟨⟨l⟩⟩ Tryz.underlying9 Tryz.underlying22 Tryz.underlying5, fun _ => ⟨0, rfl, fun i hi => ?_⟩, grownCap_ge w _ 0 5, ⟨rfl, rfl, rfl, by rw [Lib.bytesWorld_size]; omega, fun b hb => Lib.bytesWorld_at_old w 5 _ b hb⟩⟩
  rw [txL_len] at hi
  rw [Nat.zero_add, Lib.bytesWorld_cell w 5 ⟨⟨l⟩⟩ i hi]
  unfold txL
  rw [List.getD_eq_getElem?_getD, List.getD_eq_getElem?_getD, List.getElem?_map]
  have h : l[i]? = some l[i] := List.getElem?_eq_getElem hi
  rw [h]
  simp
theorem wpList_convT {P : Program} (w : World) {ops : Array Oper} {rest : List Oper} {o : Oper} {a : Act} {Q : Exit → Act → World → Prop} (hgd : o.guard = none) (src dst : TypeId) (x : Operand) (ho : o.op = .convert src dst x) (v : Value) (hx : a.eval x = v)
    (v' : Value) (w' : World) (hr : (convert src dst v).run P w = .ok v' w') (h : wpList P ops Q rest (a.put o.dst v') w') : wpList P ops Q (o :: rest) a w :=
  wpList_plain hgd fun _ hK => by
    unfold Oper.wp execOp
    simp only [ho, hx]
    rw [Sem.run_bind, hr]
    exact hK _ _ h
theorem shL_is (l : List UInt8) (h : l.length ≤ 255) : shL l = ((l.length : Int) :: txL l) := by
  unfold shL bigL
  simp [List.range_succ]
  omega
set_option maxRecDepth 100000 in
set_option maxHeartbeats 1000000 in
theorem l13ShortR_any (w : World) (g : Nat) (a : Option Addr) (c : Nat) (xs : List Int) (h : Rd w g a .u8 xs) (hz : a = none → c = 0) (hl : xs.length ≤ 255) :
    Calls Tryz.prog 55 #[.slice a xs.length c] w fun e w' => ∃ v, e = .returned v ∧ RowB w' w.heap.size v ((xs.length : Int) :: xs) ∧ Below w.heap.size w w' := by
  obtain ⟨i0, hi, hz0, hz1, hz2⟩ := info_parts Tryz.info5
  have n0 : Below w.heap.size w (w.alloc (.cells #[.int .u8 (xs.length : Int)] 5)) := (Below.refl _ _).alloc (Nat.le_refl _) _
  obtain ⟨v1, w1, hap, R1, n1⟩ := append_any (P := Tryz.prog) (w.alloc (.cells #[.int .u8 (xs.length : Int)] 5)) 22 i0 Tryz.underlying22 hi hz0 hz1 hz2 w.heap.size w.heap.size _ _ (RowB.lit1 w (xs.length : Int)) g a c xs (h.up n0) hz (by simp; omega) (Nat.le_refl _) n0.size
  have N1 := n0.trans n1
  rw [List.cons_append, List.nil_append] at R1
  clear n0 n1 h
  go_enter Tryz.func55, Tryz.ntmps55
  go_wp2_with (at_builtin; refine Lib.wpList_append_run _ rfl _ _ 22 22 rfl _ _ rfl rfl _ _ hap ?_)
  go_ret
  exact ⟨_, rfl, R1, N1⟩
end Go.Proofs.YtccnhdicibjbaaaGreat
namespace Go.Proofs.YtccnhdicibjbaaaGreat
open Go Go.RowKit
theorem step_append_exS {P : Program} {ops : Array Oper} {o : Oper} {a : Act} {w : World} {K : Act → World → Prop} {Q : Exit → Act → World → Prop} {E : Prop} (hg : o.guard = none) (s x : Operand) (t tn : TypeId)
    (ho : o.op = .call { callee := .builtin .append, args := #[s, x], argTypes := #[t, tn] }) (vs vx : Value) (hs : a.eval s = vs) (hx : a.eval x = vx) (R : Value → World → Prop)
    (H : ∃ v' w', (Builtin.append_ #[t, tn] o.type #[vs, vx]).run P w = .ok v' w' ∧ R v' w') (hK : ∀ v' w', R v' w' → K (a.put o.dst v') w') :
    if Region.wanted o (yielded ops a.tmps) = true then Oper.wp P o a w K Q else E := by
  have hw : Region.wanted o (yielded ops a.tmps) = true := by simp [Region.wanted, hg]
  rw [if_pos hw]
  obtain ⟨v', w', hr, hR⟩ := H
  exact Lib.wp_append_run w s x t tn ho vs vx hs hx v' w' hr (hK v' w' hR)
set_option maxRecDepth 100000 in
set_option maxHeartbeats 8000000 in
theorem specEnS_any (w : World) (md li : Int) (ho pr : List UInt8) (ea : Int) (g : Nat) (a : Option Addr) (c : Nat) (X : List Int) (hr : Rd w g a .u8 X) (hz : a = none → c = 0) (g' : Nat) (a' : Option Addr) (c' : Nat) (Y : List Int) (hr' : Rd w g' a' .u8 Y) (hz' : a' = none → c' = 0) (hh : ho.length ≤ 1048576) (hp : pr.length ≤ 1048576) :
    Calls Tryz.prog 32 #[.agg #[.slice a X.length c, .slice a' Y.length c', .int .i64 md, .int .i64 li, .string ⟨⟨ho⟩⟩, .string ⟨⟨pr⟩⟩, .int .i64 ea]] w fun e w' => ∃ v, e = .returned v ∧ RowB w' w.heap.size v (esA X Y md li ho pr ea) ∧ Below w.heap.size w w' := by
  obtain ⟨i0, hi, hz0, hz1, hz2⟩ := info_parts Tryz.info5
  have n1 : Below w.heap.size w (w.alloc (.cells #[.slice a X.length c, .slice a' Y.length c', .int .i64 md, .int .i64 li, .string ⟨⟨ho⟩⟩, .string ⟨⟨pr⟩⟩, .int .i64 ea] 24)) := (Below.refl _ _).alloc (Nat.le_refl _) _
  have P0 : RwC (w.alloc (.cells #[.slice a X.length c, .slice a' Y.length c', .int .i64 md, .int .i64 li, .string ⟨⟨ho⟩⟩, .string ⟨⟨pr⟩⟩, .int .i64 ea] 24)) w.heap.size [.slice a X.length c, .slice a' Y.length c', .int .i64 md, .int .i64 li, .string ⟨⟨ho⟩⟩, .string ⟨⟨pr⟩⟩, .int .i64 ea] 24 := RwC.new w _ _
  have SF := fun W => hide (specState_any W md li ho pr ea a X.length c a' Y.length c' hh hp)
  by_cases h0 : sfV X.length Y.length md li ho pr.length ea = 0
  · have e1 : Hid (esA X Y md li ho pr ea = esL X Y md li ho pr ea) := by show _ = _; unfold esA; rw [if_pos h0]
    have LS := hide (sf0 h0)
    rw [h0] at SF
    have N := n1
    have lq : w.heap.size < (w.alloc (.cells #[.slice a X.length c, .slice a' Y.length c', .int .i64 md, .int .i64 li, .string ⟨⟨ho⟩⟩, .string ⟨⟨pr⟩⟩, .int .i64 ea] 24)).heap.size := by simp
    rw [e1.out]
    clear e1 h0 hh hp
    go_enter Tryz.func32, Tryz.ntmps32
    go_wp2_with fail
    generalize w.alloc (.cells #[.slice a X.length c, .slice a' Y.length c', .int .i64 md, .int .i64 li, .string ⟨⟨ho⟩⟩, .string ⟨⟨pr⟩⟩, .int .i64 ea] 24) = wa at *
    refine (SF _).out.mono ?_
    rintro e w1 ⟨rfl, m1⟩
    replace N := nxt N m1
    replace P0 := P0.up m1
    replace lq := Nat.lt_of_lt_of_le lq m1.size
    clear SF n1 m1
    go_upto_region 3 with fail
    have CP : Hid (∀ W, Below w1.heap.size w1 W → Calls Tryz.prog 30 #[.slice a X.length c] W fun e w' => ∃ v, e = .returned v ∧ RowB w' w1.heap.size v X ∧ Below w1.heap.size w1 w') := fun W m => (l1CopyN_any W g a c X ((hr.up N).up m) hz (by have := LS.out; omega)).mono (by
      rintro e w' ⟨v, rfl, R, n⟩
      exact ⟨v, rfl, R.base m.size, nxt m n⟩)
    have AP : Hid (∀ W v, Below w1.heap.size w1 W → RowB W w1.heap.size v X → ∃ v' w', (Builtin.append_ #[22, 22] 22 #[v, .slice a' Y.length c']).run Tryz.prog W = .ok v' w' ∧ RowB w' w1.heap.size v' (X ++ Y) ∧ Below w1.heap.size w1 w') := fun W v m R => by
      obtain ⟨v', w', h1, h2, h3⟩ := append_any (P := Tryz.prog) W 22 i0 Tryz.underlying22 hi hz0 hz1 hz2 w1.heap.size w1.heap.size v X R g' a' c' Y ((hr'.up N).up m) hz' (by have := LS.out; omega) (Nat.le_refl _) m.size
      exact ⟨v', w', h1, h2, m.trans h3⟩
    have CY : Hid (∀ W, Below w1.heap.size w1 W → (W.cell? ⟨w.heap.size, 0, none⟩ = some (.slice a X.length c) ∧ W.cell? ⟨w.heap.size, 1, none⟩ = some (.slice a' Y.length c'))) := fun W m => ⟨(P0.up m).cell 0, (P0.up m).cell 1⟩
    have nd : Below w1.heap.size w1 w1.drew := (Below.refl _ _).drew
    go_region_held3 (fun W => W.cell? ⟨w.heap.size, 0, none⟩ = some (.slice a X.length c) ∧ W.cell? ⟨w.heap.size, 1, none⟩ = some (.slice a' Y.length c'))
      (first | exact (unhide CY) _ n2 | exact (unhide CY) _ nc | exact (unhide CY) _ nd)
      (first
        | (refine step_append_exS rfl (.tmp 10) (.tmp 12) 22 22 rfl _ (.slice a' Y.length c') rfl rfl _ ((unhide AP) _ _ nc Rc) ?_; rintro v2 w2 ⟨R2, n2⟩)
        | (go_at_call 30; refine ((unhide CP) _ nd).mono ?_; rintro r wc ⟨vc, rfl, Rc, nc⟩)
        | fail)
    clear nd nc Rc CY AP CP hr hr' hz hz'
    have zb := n2.size
    replace P0 := P0.up n2
    replace N := nxt N n2
    generalize w1.heap.size = B at *
    have hq : w.heap.size < B := lq
    clear n2 lq
    have p2 : w2.cell? ⟨w.heap.size, 2, none⟩ = some (.int .i64 md) := P0.cell 2
    have BG := hide (l1BigB_any w2 md 8 (by have := LS.out; omega) (by have := LS.out; omega) (by decide))
    go_wp2_with fail
    refine BG.out.mono ?_
    rintro e u3 ⟨rfl, G3, m3⟩
    have D0 : Rd u3 w2.heap.size (some ⟨w2.heap.size, 0, none⟩) .u8 (bigL md 8) := by
      obtain ⟨x1, x2, x3, x4, x5, -, -, -⟩ := G3.rd
      rw [bigL_len] at x4
      injection x4 with y1 y2 y3
      subst y1
      by_cases h : 0 < (bigL md 8).length
      · obtain ⟨off, e, -⟩ := x5 h
        injection e with e
        injection e with e1 e2
        subst e1
        exact x5
      · exact fun q => absurd q h
    have hc0 : (some ⟨w2.heap.size, 0, none⟩ : Option Addr) = none → 8 = 0 := fun h => nomatch h
    have el : (bigL md 8).length = 8 := bigL_len _ _
    clear BG G3
    replace R2 := R2.up m3
    replace P0 := P0.up m3
    replace N := nxt N m3
    have zu3 := m3.size
    obtain ⟨v3, w3, hap, R3, n3⟩ := append_any (P := Tryz.prog) u3 22 i0 Tryz.underlying22 hi hz0 hz1 hz2 B B v2 (X ++ Y) R2 w2.heap.size (some ⟨w2.heap.size, 0, none⟩) 8 (bigL md 8) D0 hc0 (by simp only [List.length_append, bigL_len]; have := LS.out; omega) (Nat.le_refl _) (by omega)
    rw [el] at hap
    clear el
    clear D0 hc0 p2 m3 R2
    have z3 := n3.size
    replace P0 := P0.at_base n3 hq
    replace N := N.trans (n3.mono (by omega))
    clear n3
    have hap0 := hap
    clear hap
    have p3 : w3.cell? ⟨w.heap.size, 3, none⟩ = some (.int .i64 li) := P0.cell 3
    have BG := hide (l1BigB_any w3 li 4 (by have := LS.out; omega) (by have := LS.out; omega) (by decide))
    go_wp2_with (first | (at_builtin; refine Lib.wpList_append_run _ rfl _ _ 22 22 rfl _ _ rfl rfl _ _ hap0 ?_) | fail)
    clear hap0
    refine BG.out.mono ?_
    rintro e u4 ⟨rfl, G4, m4⟩
    have D0 : Rd u4 w3.heap.size (some ⟨w3.heap.size, 0, none⟩) .u8 (bigL li 4) := by
      obtain ⟨x1, x2, x3, x4, x5, -, -, -⟩ := G4.rd
      rw [bigL_len] at x4
      injection x4 with y1 y2 y3
      subst y1
      by_cases h : 0 < (bigL li 4).length
      · obtain ⟨off, e, -⟩ := x5 h
        injection e with e
        injection e with e1 e2
        subst e1
        exact x5
      · exact fun q => absurd q h
    have hc0 : (some ⟨w3.heap.size, 0, none⟩ : Option Addr) = none → 4 = 0 := fun h => nomatch h
    have el : (bigL li 4).length = 4 := bigL_len _ _
    clear BG G4
    replace R3 := R3.up m4
    replace P0 := P0.up m4
    replace N := nxt N m4
    have zu4 := m4.size
    obtain ⟨v4, w4, hap, R4, n4⟩ := append_any (P := Tryz.prog) u4 22 i0 Tryz.underlying22 hi hz0 hz1 hz2 B B v3 (X ++ Y ++ bigL md 8) R3 w3.heap.size (some ⟨w3.heap.size, 0, none⟩) 4 (bigL li 4) D0 hc0 (by simp only [List.length_append, bigL_len]; have := LS.out; omega) (Nat.le_refl _) (by omega)
    rw [el] at hap
    clear el
    clear D0 hc0 p3 m4 R3
    have z4 := n4.size
    replace P0 := P0.at_base n4 hq
    replace N := N.trans (n4.mono (by omega))
    clear n4
    have hap0 := hap
    clear hap
    have p6 : w4.cell? ⟨w.heap.size, 6, none⟩ = some (.int .i64 ea) := P0.cell 6
    have BG := hide (l1BigB_any w4 ea 4 (by have := LS.out; omega) (by have := LS.out; omega) (by decide))
    go_wp2_with (first | (at_builtin; refine Lib.wpList_append_run _ rfl _ _ 22 22 rfl _ _ rfl rfl _ _ hap0 ?_) | fail)
    clear hap0
    refine BG.out.mono ?_
    rintro e u5 ⟨rfl, G5, m5⟩
    have D0 : Rd u5 w4.heap.size (some ⟨w4.heap.size, 0, none⟩) .u8 (bigL ea 4) := by
      obtain ⟨x1, x2, x3, x4, x5, -, -, -⟩ := G5.rd
      rw [bigL_len] at x4
      injection x4 with y1 y2 y3
      subst y1
      by_cases h : 0 < (bigL ea 4).length
      · obtain ⟨off, e, -⟩ := x5 h
        injection e with e
        injection e with e1 e2
        subst e1
        exact x5
      · exact fun q => absurd q h
    have hc0 : (some ⟨w4.heap.size, 0, none⟩ : Option Addr) = none → 4 = 0 := fun h => nomatch h
    have el : (bigL ea 4).length = 4 := bigL_len _ _
    clear BG G5
    replace R4 := R4.up m5
    replace P0 := P0.up m5
    replace N := nxt N m5
    have zu5 := m5.size
    obtain ⟨v5, w5, hap, R5, n5⟩ := append_any (P := Tryz.prog) u5 22 i0 Tryz.underlying22 hi hz0 hz1 hz2 B B v4 (X ++ Y ++ bigL md 8 ++ bigL li 4) R4 w4.heap.size (some ⟨w4.heap.size, 0, none⟩) 4 (bigL ea 4) D0 hc0 (by simp only [List.length_append, bigL_len]; have := LS.out; omega) (Nat.le_refl _) (by omega)
    rw [el] at hap
    clear el
    clear D0 hc0 p6 m5 R4
    have z5 := n5.size
    replace P0 := P0.at_base n5 hq
    replace N := N.trans (n5.mono (by omega))
    clear n5
    have hap0 := hap
    clear hap
    have p4 : w5.cell? ⟨w.heap.size, 4, none⟩ = some (.string ⟨⟨ho⟩⟩) := P0.cell 4
    obtain ⟨cx6, wx6, hcv, DX, lx, mx⟩ := convT w5 ho
    have SH := hide (l13ShortR_any wx6 w5.heap.size (some ⟨w5.heap.size, 0, none⟩) cx6 (txL ho) DX (fun h => nomatch h) (by rw [txL_len]; have := LS.out; omega))
    rw [txL_len, ← shL_is ho (by have := LS.out; omega)] at SH
    clear DX lx
    go_wp2_with (first | (at_builtin; refine Lib.wpList_append_run _ rfl _ _ 22 22 rfl _ _ rfl rfl _ _ hap0 ?_) | (refine wpList_convT _ rfl 9 22 (.tmp 31) rfl (.string ⟨⟨ho⟩⟩) rfl _ _ hcv ?_) | fail)
    clear hap0
    refine SH.out.mono ?_
    rintro e u6 ⟨vs6, rfl, G6, ms6⟩
    obtain ⟨as6, cs6, gs6, rfl, D0, hc0, -, -⟩ := G6.rd
    have m6 := nxt mx ms6
    clear SH G6 mx ms6 hcv
    replace R5 := R5.up m6
    replace P0 := P0.up m6
    replace N := nxt N m6
    have zu6 := m6.size
    obtain ⟨v6, w6, hap, R6, n6⟩ := append_any (P := Tryz.prog) u6 22 i0 Tryz.underlying22 hi hz0 hz1 hz2 B B v5 (X ++ Y ++ bigL md 8 ++ bigL li 4 ++ bigL ea 4) R5 gs6 as6 cs6 (shL ho) D0 hc0 (by simp only [List.length_append, bigL_len, shL_len]; have := LS.out; omega) (Nat.le_refl _) (by omega)
    clear D0 hc0 p4 m6 R5
    have z6 := n6.size
    replace P0 := P0.at_base n6 hq
    replace N := N.trans (n6.mono (by omega))
    clear n6
    have hap0 := hap
    clear hap
    have p5 : w6.cell? ⟨w.heap.size, 5, none⟩ = some (.string ⟨⟨pr⟩⟩) := P0.cell 5
    obtain ⟨cx7, wx7, hcv, DX, lx, mx⟩ := convT w6 pr
    have SH := hide (l13ShortR_any wx7 w6.heap.size (some ⟨w6.heap.size, 0, none⟩) cx7 (txL pr) DX (fun h => nomatch h) (by rw [txL_len]; have := LS.out; omega))
    rw [txL_len, ← shL_is pr (by have := LS.out; omega)] at SH
    clear DX lx
    go_wp2_with (first | (at_builtin; refine Lib.wpList_append_run _ rfl _ _ 22 22 rfl _ _ rfl rfl _ _ hap0 ?_) | (refine wpList_convT _ rfl 9 22 (.tmp 37) rfl (.string ⟨⟨pr⟩⟩) rfl _ _ hcv ?_) | fail)
    clear hap0
    refine SH.out.mono ?_
    rintro e u7 ⟨vs7, rfl, G7, ms7⟩
    obtain ⟨as7, cs7, gs7, rfl, D0, hc0, -, -⟩ := G7.rd
    have m7 := nxt mx ms7
    clear SH G7 mx ms7 hcv
    replace R6 := R6.up m7
    replace P0 := P0.up m7
    replace N := nxt N m7
    have zu7 := m7.size
    obtain ⟨v7, w7, hap, R7, n7⟩ := append_any (P := Tryz.prog) u7 22 i0 Tryz.underlying22 hi hz0 hz1 hz2 B B v6 (X ++ Y ++ bigL md 8 ++ bigL li 4 ++ bigL ea 4 ++ shL ho) R6 gs7 as7 cs7 (shL pr) D0 hc0 (by simp only [List.length_append, bigL_len, shL_len]; have := LS.out; omega) (Nat.le_refl _) (by omega)
    clear D0 hc0 p5 m7 R6
    have z7 := n7.size
    replace P0 := P0.at_base n7 hq
    replace N := N.trans (n7.mono (by omega))
    clear n7
    have hap0 := hap
    clear hap
    go_wp2_with (at_builtin; refine Lib.wpList_append_run _ rfl _ _ 22 22 rfl _ _ rfl rfl _ _ hap0 ?_)
    go_ret
    exact ⟨_, rfl, R7.base (by omega), N⟩
  · have e1 : Hid (esA X Y md li ho pr ea = []) := by show _ = _; unfold esA; rw [if_neg h0]
    rw [e1.out]
    generalize sfV X.length Y.length md li ho pr.length ea = R at *
    clear e1 hr hr' hz hz' hh hp
    go_enter Tryz.func32, Tryz.ntmps32
    go_wp2_with fail
    generalize w.alloc (.cells #[.slice a X.length c, .slice a' Y.length c', .int .i64 md, .int .i64 li, .string ⟨⟨ho⟩⟩, .string ⟨⟨pr⟩⟩, .int .i64 ea] 24) = wa at *
    refine (SF _).out.mono ?_
    rintro e w1 ⟨rfl, m1⟩
    have N := nxt n1 m1
    go_wp2
    go_ret
    exact ⟨_, rfl, (RowB.lit0 w1).base N.size, N.trans (((Below.refl _ _).alloc (Nat.le_refl _) _).mono N.size)⟩
end Go.Proofs.YtccnhdicibjbaaaGreat
namespace Go.Proofs.YtccnhdicibjbaaaGreat
open Go Go.RowKit
end Go.Proofs.YtccnhdicibjbaaaGreat
namespace Go.Proofs.YtccnhdicibjbaaaGreat
open Go Go.RowKit
set_option maxRecDepth 100000 in
theorem iTs : (Tryz.prog.info? 24).map (·.size) = some 7 := by kernel_rfl
set_option maxRecDepth 100000 in
theorem rowTs : ∃ d, Tryz.prog.underlying 24 = some d ∧ d.isRow = true := ⟨_, Tryz.underlying24, rfl⟩
end Go.Proofs.YtccnhdicibjbaaaGreat
namespace Go.Proofs.YtccnhdicibjbaaaGreat
open Go Go.RowKit
theorem byt_appS {xs ys : List Int} (h : Byt xs) (k : Byt ys) : Byt (xs ++ ys) := fun i => by
  rw [List.getD_eq_getElem?_getD, List.getElem?_append]
  split
  · have := h i; rwa [List.getD_eq_getElem?_getD] at this
  · have := k (i - xs.length); rwa [List.getD_eq_getElem?_getD] at this
theorem byt_map {α : Type} (f : α → Int) (hf : ∀ x, 0 ≤ f x ∧ f x < 256) (l : List α) : Byt (l.map f) := fun i => by
  rw [List.getD_eq_getElem?_getD, List.getElem?_map]
  cases l[i]? with
  | none => exact ⟨by simp, by simp⟩
  | some x => simpa using hf x
theorem byt_txL (l : List UInt8) : Byt (txL l) := byt_map _ (fun b => ⟨by omega, by have := b.toNat_lt; omega⟩) l
theorem byt_bigL (n : Int) (t : Nat) : Byt (bigL n t) := byt_map _ (fun _ => ⟨by omega, by omega⟩) _
theorem byt_esA {X Y : List Int} (hX : Byt X) (hY : Byt Y) (md li : Int) (ho pr : List UInt8) (ea : Int) : Byt (esA X Y md li ho pr ea) := by
  unfold esA
  split
  · unfold esL shL
    exact byt_appS (byt_appS (byt_appS (byt_appS (byt_appS (byt_appS hX hY) (byt_bigL _ _)) (byt_bigL _ _)) (byt_bigL _ _)) (byt_appS (byt_bigL _ _) (byt_txL _))) (byt_appS (byt_bigL _ _) (byt_txL _))
  · exact fun i => by simp
def NewR (B : Nat) (w' : World) (e : Ending) (gd : Bool) (xs ys : List Int) (md li : Int) (ho pr : List UInt8) (ea : Int) : Prop :=
  ∃ (a : Option Addr) (c g : Nat) (a' : Option Addr) (c' g' : Nat), e = .returned (.agg #[.bool gd, .slice a xs.length c, .slice a' ys.length c', .int .i64 md, .int .i64 li, .string ⟨⟨ho⟩⟩, .string ⟨⟨pr⟩⟩, .int .i64 ea]) ∧ Own w' g a .u8 xs ∧ Own w' g' a' .u8 ys ∧ g ≠ g' ∧ B ≤ g ∧ g < w'.heap.size ∧ B ≤ g' ∧ g' < w'.heap.size
def rX (b : List Int) : List Int := if dsB b = true then dX b else []
def rY (b : List Int) : List Int := if dsB b = true then dY b else []
def rM (b : List Int) : Int := if dsB b = true then dM b else 0
def rL (b : List Int) : Int := if dsB b = true then dL b else 0
def rH (b : List Int) : List UInt8 := if dsB b = true then dH b else []
def rP (b : List Int) : List UInt8 := if dsB b = true then dP b else []
def rE (b : List Int) : Int := if dsB b = true then dE b else 0
def NewD (B : Nat) (w' : World) (e : Ending) (b : List Int) : Prop := NewR B w' e (dsB b) (rX b) (rY b) (rM b) (rL b) (rH b) (rP b) (rE b)
theorem NewD.good {B : Nat} {w' : World} {b : List Int} (h : dsB b = true) {g g' : Nat} (hX : Blk w' g .u8 (dX b)) (hY : Blk w' g' .u8 (dY b)) (hne : g ≠ g') (l1 : B ≤ g) (l2 : B ≤ g') :
    NewD B w' (.returned (.agg #[.bool true, .slice (some ⟨g, 0, none⟩) 32 32, .slice (some ⟨g', 0, none⟩) 32 32, .int .i64 (dM b), .int .i64 (dL b), .string ⟨⟨dH b⟩⟩, .string ⟨⟨dP b⟩⟩, .int .i64 (dE b)])) b := by
  unfold NewD rX rY rM rL rH rP rE
  rw [if_pos h, if_pos h, if_pos h, if_pos h, if_pos h, if_pos h, if_pos h, h]
  exact ⟨_, _, g, _, _, g', by rw [dX_len, dY_len], hX.own0, hY.own0, hne, l1, hX.lt, l2, hY.lt⟩
theorem NewD.bad {B : Nat} {w' : World} {b : List Int} (h : dsB b = false) {g g' : Nat} (hne : g ≠ g') (l1 : B ≤ g) (l2 : B ≤ g') (k1 : g < w'.heap.size) (k2 : g' < w'.heap.size) :
    NewD B w' (.returned (.agg #[.bool false, .slice none 0 0, .slice none 0 0, .int .i64 0, .int .i64 0, .string ⟨#[]⟩, .string ⟨#[]⟩, .int .i64 0])) b := by
  have h' : ¬ dsB b = true := by rw [h]; decide
  unfold NewD rX rY rM rL rH rP rE
  rw [if_neg h', if_neg h', if_neg h', if_neg h', if_neg h', if_neg h', if_neg h', h]
  exact ⟨none, 0, g, none, 0, g', rfl, Own.nil _ _ _ _, Own.nil _ _ _ _, hne, l1, k1, l2, k2⟩
set_option maxRecDepth 100000 in
theorem iSr : (Tryz.prog.info? 30).map (·.size) = some 8 := by kernel_rfl
set_option maxRecDepth 100000 in
theorem rowSr : ∃ d, Tryz.prog.underlying 30 = some d ∧ d.isRow = true := ⟨_, Tryz.underlying30, rfl⟩
theorem RwC.newI {w w' : World} {q p : Nat} {cs : List Value} {t : TypeId} (h : RwC w q cs t) (n : NewI p w w') (hq : q ≠ p) : RwC w' q cs t := (n.block h.lt hq).trans h
theorem Blk.newI {w w' : World} {q p : Nat} {k : IntKind} {ys : List Int} (h : Blk w q k ys) (n : NewI p w w') (hq : q ≠ p) : Blk w' q k ys := h.of_block (n.block h.lt hq)
theorem Cur.onl {w w' : World} {p q : Nat} {l : Value} {i : Int} (h : Cur w p l i) (n : Only q w w') (hne : p ≠ q) : Cur w' p l i := h.of_block (n.block p hne)
set_option maxRecDepth 100000 in
set_option maxHeartbeats 16000000 in
theorem specDcS_any (w : World) (g : Nat) (a : Option Addr) (c : Nat) (b : List Int) (hr : Rd w g a .u8 b) (hb : Byt b) (hl : b.length ≤ 1048576) :
    Calls Tryz.prog 34 #[.slice a b.length c] w fun e w' => NewD w.heap.size w' e b ∧ Below w.heap.size w w' := by
  obtain ⟨dR, hdR, hrowR⟩ := rowSr
  have z1 : (w.alloc (.cells #[.bool false, .slice none 0 0, .slice none 0 0, .int .i64 0, .int .i64 0, .string ⟨#[]⟩, .string ⟨#[]⟩, .int .i64 0] 30)).heap.size = w.heap.size + 1 := by simp
  have n1 : Below w.heap.size w (w.alloc (.cells #[.bool false, .slice none 0 0, .slice none 0 0, .int .i64 0, .int .i64 0, .string ⟨#[]⟩, .string ⟨#[]⟩, .int .i64 0] 30)) := (Below.refl _ _).alloc (Nat.le_refl _) _
  have n2 : Below (w.alloc (.cells #[.bool false, .slice none 0 0, .slice none 0 0, .int .i64 0, .int .i64 0, .string ⟨#[]⟩, .string ⟨#[]⟩, .int .i64 0] 30)).heap.size (w.alloc (.cells #[.bool false, .slice none 0 0, .slice none 0 0, .int .i64 0, .int .i64 0, .string ⟨#[]⟩, .string ⟨#[]⟩, .int .i64 0] 30)) ((w.alloc (.cells #[.bool false, .slice none 0 0, .slice none 0 0, .int .i64 0, .int .i64 0, .string ⟨#[]⟩, .string ⟨#[]⟩, .int .i64 0] 30)).alloc (.cells #[.slice a b.length c, .int .i64 0] 81)) := (Below.refl _ _).alloc (Nat.le_refl _) _
  have Q0 : RwC (w.alloc (.cells #[.bool false, .slice none 0 0, .slice none 0 0, .int .i64 0, .int .i64 0, .string ⟨#[]⟩, .string ⟨#[]⟩, .int .i64 0] 30)) w.heap.size [.bool false, .slice none 0 0, .slice none 0 0, .int .i64 0, .int .i64 0, .string ⟨#[]⟩, .string ⟨#[]⟩, .int .i64 0] 30 := RwC.new w _ _
  have C0 : Cur ((w.alloc (.cells #[.bool false, .slice none 0 0, .slice none 0 0, .int .i64 0, .int .i64 0, .string ⟨#[]⟩, .string ⟨#[]⟩, .int .i64 0] 30)).alloc (.cells #[.slice a b.length c, .int .i64 0] 81)) (w.alloc (.cells #[.bool false, .slice none 0 0, .slice none 0 0, .int .i64 0, .int .i64 0, .string ⟨#[]⟩, .string ⟨#[]⟩, .int .i64 0] 30)).heap.size (.slice a b.length c) ((0 : Nat) : Int) := ⟨81, heap_alloc_new _ _⟩
  have N := nxt n1 n2
  replace Q0 := Q0.up n2
  rw [z1] at C0
  have zq : w.heap.size + 1 < ((w.alloc (.cells #[.bool false, .slice none 0 0, .slice none 0 0, .int .i64 0, .int .i64 0, .string ⟨#[]⟩, .string ⟨#[]⟩, .int .i64 0] 30)).alloc (.cells #[.slice a b.length c, .int .i64 0] 81)).heap.size := C0.lt
  have TK := hide (fun W i n h (N : Below w.heap.size w W) => l13Take_any W (w.heap.size + 1) g a c b i n h (hr.up N))
  have NU := hide (fun W i n h (N : Below w.heap.size w W) => l13Number_any W (w.heap.size + 1) g a c b i n h (hr.up N) hb)
  have L1 := hide (dn1_is hb)
  have L2 := hide (dn2_is hb)
  clear n1 n2 z1
  go_enter Tryz.func34, Tryz.ntmps34
  go_wp2_with fail
  generalize (w.alloc (.cells #[.bool false, .slice none 0 0, .slice none 0 0, .int .i64 0, .int .i64 0, .string ⟨#[]⟩, .string ⟨#[]⟩, .int .i64 0] 30)).alloc (.cells #[.slice a b.length c, .int .i64 0] 81) = v0 at *
  refine (TK.out v0 0 32 C0 N (by omega) (by omega) (by omega)).mono ?_
  rintro e v1 ⟨rfl, BX, C1, m1⟩
  have zv1 := m1.2.2.2.1
  replace N := N.trans (m1.below (B := w.heap.size) (by omega) (by omega))
  replace Q0 := Q0.newI m1 (by omega)
  have BX : Blk v1 v0.heap.size .u8 (dX b) := BX
  have gX1 := BX.lt
  clear C0 m1
  generalize hgX : v0.heap.size = gX at *
  have lgX : w.heap.size + 1 < gX := by omega
  clear hgX
  go_wp2_with fail
  refine (TK.out v1 (0 + 32) 32 C1 N (by omega) (by omega) (by omega)).mono ?_
  rintro e v2 ⟨rfl, BY, C2, m2⟩
  have zv2 := m2.2.2.2.1
  replace N := N.trans (m2.below (B := w.heap.size) (by omega) (by omega))
  replace Q0 := Q0.newI m2 (by omega)
  replace BX := BX.newI m2 (by omega)
  have BY : Blk v2 v1.heap.size .u8 (dY b) := BY
  have gY1 := BY.lt
  clear C1 m2
  generalize hgY : v1.heap.size = gY at *
  have lgY : gX < gY := by omega
  clear hgY
  have T0 : RwC (v2.alloc (.cells #[.slice (some ⟨gX, 0, none⟩) 32 32, .slice (some ⟨gY, 0, none⟩) 32 32, .int .i64 0, .int .i64 0, .string ⟨#[]⟩, .string ⟨#[]⟩, .int .i64 0] 24)) v2.heap.size [.slice (some ⟨gX, 0, none⟩) 32 32, .slice (some ⟨gY, 0, none⟩) 32 32, .int .i64 0, .int .i64 0, .string ⟨#[]⟩, .string ⟨#[]⟩, .int .i64 0] 24 := RwC.new v2 _ _
  have n3 : Below v2.heap.size v2 (v2.alloc (.cells #[.slice (some ⟨gX, 0, none⟩) 32 32, .slice (some ⟨gY, 0, none⟩) 32 32, .int .i64 0, .int .i64 0, .string ⟨#[]⟩, .string ⟨#[]⟩, .int .i64 0] 24)) := (Below.refl _ _).alloc (Nat.le_refl _) _
  have zt : v2.heap.size < (v2.alloc (.cells #[.slice (some ⟨gX, 0, none⟩) 32 32, .slice (some ⟨gY, 0, none⟩) 32 32, .int .i64 0, .int .i64 0, .string ⟨#[]⟩, .string ⟨#[]⟩, .int .i64 0] 24)).heap.size := T0.lt
  replace Q0 := Q0.up n3
  replace BX := BX.up n3
  replace BY := BY.up n3
  replace C2 := C2.up n3
  replace N := nxt N n3
  clear n3
  obtain ⟨q, hq⟩ : ∃ q, q = v2.heap.size := ⟨_, rfl⟩
  rw [← hq] at T0 zt
  have lq : gY < q := by omega
  go_wp2_with fail
  rw [← hq]
  clear hq
  generalize v2.alloc (.cells #[.slice (some ⟨gX, 0, none⟩) 32 32, .slice (some ⟨gY, 0, none⟩) 32 32, .int .i64 0, .int .i64 0, .string ⟨#[]⟩, .string ⟨#[]⟩, .int .i64 0] 24) = u2 at *
  refine (NU.out u2 (0 + 32 + 32) 8 C2 N (by omega) (by omega) (by omega)).mono ?_
  rintro e v3 ⟨rfl, C3, m3⟩
  have zv3 := m3.2.2.2.1
  replace N := N.trans (m3.below (B := w.heap.size) (by omega) (by omega))
  replace Q0 := Q0.newI m3 (by omega)
  replace BX := BX.newI m3 (by omega)
  replace BY := BY.newI m3 (by omega)
  replace T0 := T0.newI m3 (by omega)
  clear C2 m3
  rw [show nmV b (0 + 32 + 32) 8 = dM b from rfl]
  have tc : v3.cell? ⟨q, 2, none⟩ = some (.int .i64 0) := T0.cell 2
  have tf := T0.free 2
  have OS := Only.setCell v3 q 2 (.int .i64 (dM b))
  have T1 : RwC (v3.setCell ⟨q, 2, none⟩ (.int .i64 (dM b))) q [.slice (some ⟨gX, 0, none⟩) 32 32, .slice (some ⟨gY, 0, none⟩) 32 32, .int .i64 (dM b), .int .i64 0, .string ⟨#[]⟩, .string ⟨#[]⟩, .int .i64 0] 24 := T0.set 2 _
  have C3s := C3.onl OS (by omega)
  have Q1 := Q0.onl OS (by omega)
  have BX1 := BX.of_block (OS.block gX (by omega))
  have BY1 := BY.of_block (OS.block gY (by omega))
  have N1 := N.trans (OS.below (B := w.heap.size) (by omega))
  have zs : v3.heap.size ≤ (v3.setCell ⟨q, 2, none⟩ (.int .i64 (dM b))).heap.size := Nat.le_of_eq OS.size.symm
  clear Q0 BX BY N T0 C3 OS
  go_wp2_with fail
  generalize v3.setCell ⟨q, 2, none⟩ (.int .i64 (dM b)) = u3 at *
  clear tc tf
  have Q0 := Q1
  have BX := BX1
  have BY := BY1
  have N := N1
  have T0 := T1
  have C3 := C3s
  clear Q1 BX1 BY1 N1 T1 C3s
  refine (NU.out u3 (0 + 32 + 32 + 8) 4 C3 N (by omega) (by omega) (by omega)).mono ?_
  rintro e v4 ⟨rfl, C4, m4⟩
  have zv4 := m4.2.2.2.1
  replace N := N.trans (m4.below (B := w.heap.size) (by omega) (by omega))
  replace Q0 := Q0.newI m4 (by omega)
  replace BX := BX.newI m4 (by omega)
  replace BY := BY.newI m4 (by omega)
  replace T0 := T0.newI m4 (by omega)
  clear C3 m4
  rw [show nmV b (0 + 32 + 32 + 8) 4 = dL b from rfl]
  have tc : v4.cell? ⟨q, 3, none⟩ = some (.int .i64 0) := T0.cell 3
  have tf := T0.free 3
  have OS := Only.setCell v4 q 3 (.int .i64 (dL b))
  have T1 : RwC (v4.setCell ⟨q, 3, none⟩ (.int .i64 (dL b))) q [.slice (some ⟨gX, 0, none⟩) 32 32, .slice (some ⟨gY, 0, none⟩) 32 32, .int .i64 (dM b), .int .i64 (dL b), .string ⟨#[]⟩, .string ⟨#[]⟩, .int .i64 0] 24 := T0.set 3 _
  have C4s := C4.onl OS (by omega)
  have Q1 := Q0.onl OS (by omega)
  have BX1 := BX.of_block (OS.block gX (by omega))
  have BY1 := BY.of_block (OS.block gY (by omega))
  have N1 := N.trans (OS.below (B := w.heap.size) (by omega))
  have zs : v4.heap.size ≤ (v4.setCell ⟨q, 3, none⟩ (.int .i64 (dL b))).heap.size := Nat.le_of_eq OS.size.symm
  clear Q0 BX BY N T0 C4 OS
  go_wp2_with fail
  generalize v4.setCell ⟨q, 3, none⟩ (.int .i64 (dL b)) = u4 at *
  clear tc tf
  have Q0 := Q1
  have BX := BX1
  have BY := BY1
  have N := N1
  have T0 := T1
  have C4 := C4s
  clear Q1 BX1 BY1 N1 T1 C4s
  refine (NU.out u4 (0 + 32 + 32 + 8 + 4) 4 C4 N (by omega) (by omega) (by omega)).mono ?_
  rintro e v5 ⟨rfl, C5, m5⟩
  have zv5 := m5.2.2.2.1
  replace N := N.trans (m5.below (B := w.heap.size) (by omega) (by omega))
  replace Q0 := Q0.newI m5 (by omega)
  replace BX := BX.newI m5 (by omega)
  replace BY := BY.newI m5 (by omega)
  replace T0 := T0.newI m5 (by omega)
  clear C4 m5
  rw [show nmV b (0 + 32 + 32 + 8 + 4) 4 = dE b from rfl]
  have tc : v5.cell? ⟨q, 6, none⟩ = some (.int .i64 0) := T0.cell 6
  have tf := T0.free 6
  have OS := Only.setCell v5 q 6 (.int .i64 (dE b))
  have T1 : RwC (v5.setCell ⟨q, 6, none⟩ (.int .i64 (dE b))) q [.slice (some ⟨gX, 0, none⟩) 32 32, .slice (some ⟨gY, 0, none⟩) 32 32, .int .i64 (dM b), .int .i64 (dL b), .string ⟨#[]⟩, .string ⟨#[]⟩, .int .i64 (dE b)] 24 := T0.set 6 _
  have C5s := C5.onl OS (by omega)
  have Q1 := Q0.onl OS (by omega)
  have BX1 := BX.of_block (OS.block gX (by omega))
  have BY1 := BY.of_block (OS.block gY (by omega))
  have N1 := N.trans (OS.below (B := w.heap.size) (by omega))
  have zs : v5.heap.size ≤ (v5.setCell ⟨q, 6, none⟩ (.int .i64 (dE b))).heap.size := Nat.le_of_eq OS.size.symm
  clear Q0 BX BY N T0 C5 OS
  go_wp2_with fail
  generalize v5.setCell ⟨q, 6, none⟩ (.int .i64 (dE b)) = u5 at *
  clear tc tf
  have Q0 := Q1
  have BX := BX1
  have BY := BY1
  have N := N1
  have T0 := T1
  have C5 := C5s
  clear Q1 BX1 BY1 N1 T1 C5s
  refine (NU.out u5 (0 + 32 + 32 + 8 + 4 + 4) 1 C5 N (by omega) (by omega) (by omega)).mono ?_
  rintro e v6 ⟨rfl, C6, m6⟩
  have zv6 := m6.2.2.2.1
  replace N := N.trans (m6.below (B := w.heap.size) (by omega) (by omega))
  replace Q0 := Q0.newI m6 (by omega)
  replace BX := BX.newI m6 (by omega)
  replace BY := BY.newI m6 (by omega)
  replace T0 := T0.newI m6 (by omega)
  clear C5 m6
  have en : nmV b (0 + 32 + 32 + 8 + 4 + 4) 1 = (dn1 b : Int) := by rw [nmV_small hb _ _ (by decide)]; exact L1.out.1.symm
  rw [en]
  clear en
  have ln := L1.out.2
  go_wp2_with fail
  refine (TK.out v6 (0 + 32 + 32 + 8 + 4 + 4 + 1) (dn1 b) C6 N (by omega) (by omega) (by omega)).mono ?_
  rintro e x6 ⟨rfl, BT, D6, mt⟩
  have zx6 := mt.2.2.2.1
  replace N := N.trans (mt.below (B := w.heap.size) (by omega) (by omega))
  replace Q0 := Q0.newI mt (by omega)
  replace BX := BX.newI mt (by omega)
  replace BY := BY.newI mt (by omega)
  replace T0 := T0.newI mt (by omega)
  have cv := conv_run x6 _ _ (dn1 b) _ BT.own0.rd
  rw [tkB_len] at cv
  rw [str_is] at cv
  clear BT mt C6
  replace cv : (convert 22 9 (.slice (some ⟨v6.heap.size, 0, none⟩) (dn1 b) (dn1 b))).run Tryz.prog x6 = .ok (.string ⟨⟨dH b⟩⟩) x6 := cv
  have tc : x6.cell? ⟨q, 4, none⟩ = some (.string ⟨#[]⟩) := T0.cell 4
  have tf := T0.free 4
  have OS := Only.setCell x6 q 4 (.string ⟨⟨dH b⟩⟩)
  have T1 : RwC (x6.setCell ⟨q, 4, none⟩ (.string ⟨⟨dH b⟩⟩)) q [.slice (some ⟨gX, 0, none⟩) 32 32, .slice (some ⟨gY, 0, none⟩) 32 32, .int .i64 (dM b), .int .i64 (dL b), .string ⟨⟨dH b⟩⟩, .string ⟨#[]⟩, .int .i64 (dE b)] 24 := T0.set 4 _
  have C6s := D6.onl OS (by omega)
  have Q1 := Q0.onl OS (by omega)
  have BX1 := BX.of_block (OS.block gX (by omega))
  have BY1 := BY.of_block (OS.block gY (by omega))
  have N1 := N.trans (OS.below (B := w.heap.size) (by omega))
  have zs : x6.heap.size ≤ (x6.setCell ⟨q, 4, none⟩ (.string ⟨⟨dH b⟩⟩)).heap.size := Nat.le_of_eq OS.size.symm
  clear Q0 BX BY N T0 D6 OS
  go_wp2_with fail
  generalize x6.setCell ⟨q, 4, none⟩ (.string ⟨⟨dH b⟩⟩) = u6 at *
  clear tc tf
  have Q0 := Q1
  have BX := BX1
  have BY := BY1
  have N := N1
  have T0 := T1
  have C6 := C6s
  clear Q1 BX1 BY1 N1 T1 C6s
  refine (NU.out u6 (0 + 32 + 32 + 8 + 4 + 4 + 1 + dn1 b) 1 C6 N (by omega) (by omega) (by omega)).mono ?_
  rintro e v7 ⟨rfl, C7, m7⟩
  have zv7 := m7.2.2.2.1
  replace N := N.trans (m7.below (B := w.heap.size) (by omega) (by omega))
  replace Q0 := Q0.newI m7 (by omega)
  replace BX := BX.newI m7 (by omega)
  replace BY := BY.newI m7 (by omega)
  replace T0 := T0.newI m7 (by omega)
  clear C6 m7
  have en : nmV b (0 + 32 + 32 + 8 + 4 + 4 + 1 + dn1 b) 1 = (dn2 b : Int) := by rw [nmV_small hb _ _ (by decide)]; exact L2.out.1.symm
  rw [en]
  clear en
  have ln := L2.out.2
  go_wp2_with fail
  refine (TK.out v7 (0 + 32 + 32 + 8 + 4 + 4 + 1 + dn1 b + 1) (dn2 b) C7 N (by omega) (by omega) (by omega)).mono ?_
  rintro e x7 ⟨rfl, BT, D7, mt⟩
  have zx7 := mt.2.2.2.1
  replace N := N.trans (mt.below (B := w.heap.size) (by omega) (by omega))
  replace Q0 := Q0.newI mt (by omega)
  replace BX := BX.newI mt (by omega)
  replace BY := BY.newI mt (by omega)
  replace T0 := T0.newI mt (by omega)
  have cv := conv_run x7 _ _ (dn2 b) _ BT.own0.rd
  rw [tkB_len] at cv
  rw [str_is] at cv
  clear BT mt C7
  rw [show 0 + 32 + 32 + 8 + 4 + 4 + 1 + dn1 b + 1 = 82 + dn1 b by omega] at cv
  replace cv : (convert 22 9 (.slice (some ⟨v7.heap.size, 0, none⟩) (dn2 b) (dn2 b))).run Tryz.prog x7 = .ok (.string ⟨⟨dP b⟩⟩) x7 := cv
  have tc : x7.cell? ⟨q, 5, none⟩ = some (.string ⟨#[]⟩) := T0.cell 5
  have tf := T0.free 5
  have OS := Only.setCell x7 q 5 (.string ⟨⟨dP b⟩⟩)
  have T1 : RwC (x7.setCell ⟨q, 5, none⟩ (.string ⟨⟨dP b⟩⟩)) q [.slice (some ⟨gX, 0, none⟩) 32 32, .slice (some ⟨gY, 0, none⟩) 32 32, .int .i64 (dM b), .int .i64 (dL b), .string ⟨⟨dH b⟩⟩, .string ⟨⟨dP b⟩⟩, .int .i64 (dE b)] 24 := T0.set 5 _
  have C7s := D7.onl OS (by omega)
  have Q1 := Q0.onl OS (by omega)
  have BX1 := BX.of_block (OS.block gX (by omega))
  have BY1 := BY.of_block (OS.block gY (by omega))
  have N1 := N.trans (OS.below (B := w.heap.size) (by omega))
  have zs : x7.heap.size ≤ (x7.setCell ⟨q, 5, none⟩ (.string ⟨⟨dP b⟩⟩)).heap.size := Nat.le_of_eq OS.size.symm
  clear Q0 BX BY N T0 D7 OS
  have T9 := T1
  have t0 : (x7.setCell ⟨q, 5, none⟩ (.string ⟨⟨dP b⟩⟩)).cell? ⟨q, 0, none⟩ = some (.slice (some ⟨gX, 0, none⟩) 32 32) := T9.cell 0
  have t1 : (x7.setCell ⟨q, 5, none⟩ (.string ⟨⟨dP b⟩⟩)).cell? ⟨q, 1, none⟩ = some (.slice (some ⟨gY, 0, none⟩) 32 32) := T9.cell 1
  have t2 : (x7.setCell ⟨q, 5, none⟩ (.string ⟨⟨dP b⟩⟩)).cell? ⟨q, 2, none⟩ = some (.int .i64 (dM b)) := T9.cell 2
  have t3 : (x7.setCell ⟨q, 5, none⟩ (.string ⟨⟨dP b⟩⟩)).cell? ⟨q, 3, none⟩ = some (.int .i64 (dL b)) := T9.cell 3
  have t4 : (x7.setCell ⟨q, 5, none⟩ (.string ⟨⟨dP b⟩⟩)).cell? ⟨q, 4, none⟩ = some (.string ⟨⟨dH b⟩⟩) := T9.cell 4
  have t5 : (x7.setCell ⟨q, 5, none⟩ (.string ⟨⟨dP b⟩⟩)).cell? ⟨q, 5, none⟩ = some (.string ⟨⟨dP b⟩⟩) := T9.cell 5
  have t6 : (x7.setCell ⟨q, 5, none⟩ (.string ⟨⟨dP b⟩⟩)).cell? ⟨q, 6, none⟩ = some (.int .i64 (dE b)) := T9.cell 6
  clear T9
  go_wp2_with fail
  generalize x7.setCell ⟨q, 5, none⟩ (.string ⟨⟨dP b⟩⟩) = y0 at *
  clear tc tf
  have HL := hide (show (dH b).length ≤ 1048576 by rw [dH_len]; have := L1.out; omega)
  have PL := hide (show (dP b).length ≤ 1048576 by rw [dP_len]; have := L2.out; omega)
  have SF := hide (specState_any y0 (dM b) (dL b) (dH b) (dP b) (dE b) (some ⟨gX, 0, none⟩) 32 32 (some ⟨gY, 0, none⟩) 32 32 HL.out PL.out)
  refine SF.out.mono ?_
  rintro e y1 ⟨rfl, m1⟩
  have zy := m1.size
  replace N1 := nxt N1 m1
  replace Q1 := Q1.up m1
  replace BX1 := BX1.up m1
  replace BY1 := BY1.up m1
  replace T1 := T1.up m1
  clear SF C7s m1 TK NU cv t0 t1 t2 t3 t4 t5 t6
  by_cases h0 : sfV 32 32 (dM b) (dL b) (dH b) (dP b).length (dE b) = 0
  · rw [h0]
    have DB : Hid (dsB b = decide (esA (dX b) (dY b) (dM b) (dL b) (dH b) (dP b) (dE b) = b)) := by
      show _ = _
      unfold dsB
      rw [dX_len, dY_len, h0]
      simp
    have t0 : y1.cell? ⟨q, 0, none⟩ = some (.slice (some ⟨gX, 0, none⟩) 32 32) := T1.cell 0
    have t1 : y1.cell? ⟨q, 1, none⟩ = some (.slice (some ⟨gY, 0, none⟩) 32 32) := T1.cell 1
    have t2 : y1.cell? ⟨q, 2, none⟩ = some (.int .i64 (dM b)) := T1.cell 2
    have t3 : y1.cell? ⟨q, 3, none⟩ = some (.int .i64 (dL b)) := T1.cell 3
    have t4 : y1.cell? ⟨q, 4, none⟩ = some (.string ⟨⟨dH b⟩⟩) := T1.cell 4
    have t5 : y1.cell? ⟨q, 5, none⟩ = some (.string ⟨⟨dP b⟩⟩) := T1.cell 5
    have t6 : y1.cell? ⟨q, 6, none⟩ = some (.int .i64 (dE b)) := T1.cell 6
    have EN := hide (specEnS_any y1 (dM b) (dL b) (dH b) (dP b) (dE b) gX (some ⟨gX, 0, none⟩) 32 (dX b) BX1.own0.rd (fun h => nomatch h) gY (some ⟨gY, 0, none⟩) 32 (dY b) BY1.own0.rd (fun h => nomatch h) HL.out PL.out)
    rw [dX_len, dY_len] at EN
    have BE : Hid (Byt (esA (dX b) (dY b) (dM b) (dL b) (dH b) (dP b) (dE b))) := byt_esA (tkB_byt hb 0 32) (tkB_byt hb 32 32) _ _ _ _ _
    generalize esA (dX b) (dY b) (dM b) (dL b) (dH b) (dP b) (dE b) = E at *
    clear h0
    go_wp2_with fail
    refine EN.out.mono ?_
    rintro e y2 ⟨v2, rfl, R2, m2⟩
    obtain ⟨a2, c2, g2, rfl, D2, -, -, -⟩ := R2.rd
    have zz := m2.size
    replace N1 := nxt N1 m2
    replace Q1 := Q1.up m2
    replace BX1 := BX1.up m2
    replace BY1 := BY1.up m2
    replace T1 := T1.up m2
    have SA := hide (l1Same_any y2 g2 g a2 a c2 c E b D2 (hr.up N1) BE.out hb)
    clear EN R2 m2 D2 BE t0 t1 t2 t3 t4 t5 t6
    go_wp2_with fail
    refine SA.out.mono ?_
    rintro e y3 ⟨rfl, h3⟩
    have h3 := h3.symm
    subst h3
    by_cases hE : E = b
    · have DG := hide (DB.out.trans (decide_eq_true hE))
      rw [decide_eq_true hE]
      clear SA DB hE
      have t0 : y2.cell? ⟨q, 0, none⟩ = some (.slice (some ⟨gX, 0, none⟩) 32 32) := T1.cell 0
      have t1 : y2.cell? ⟨q, 1, none⟩ = some (.slice (some ⟨gY, 0, none⟩) 32 32) := T1.cell 1
      have t2 : y2.cell? ⟨q, 2, none⟩ = some (.int .i64 (dM b)) := T1.cell 2
      have t3 : y2.cell? ⟨q, 3, none⟩ = some (.int .i64 (dL b)) := T1.cell 3
      have t4 : y2.cell? ⟨q, 4, none⟩ = some (.string ⟨⟨dH b⟩⟩) := T1.cell 4
      have t5 : y2.cell? ⟨q, 5, none⟩ = some (.string ⟨⟨dP b⟩⟩) := T1.cell 5
      have t6 : y2.cell? ⟨q, 6, none⟩ = some (.int .i64 (dE b)) := T1.cell 6
      have qc0 : y2.cell? ⟨w.heap.size, 0, none⟩ = some (.bool false) := Q1.cell 0
      have qf0 := Q1.free 0
      have qc1 : y2.cell? ⟨w.heap.size, 1, none⟩ = some (.slice none 0 0) := Q1.cell 1
      have qf1 := Q1.free 1
      have qc2 : y2.cell? ⟨w.heap.size, 2, none⟩ = some (.slice none 0 0) := Q1.cell 2
      have qf2 := Q1.free 2
      have qc3 : y2.cell? ⟨w.heap.size, 3, none⟩ = some (.int .i64 0) := Q1.cell 3
      have qf3 := Q1.free 3
      have qc4 : y2.cell? ⟨w.heap.size, 4, none⟩ = some (.int .i64 0) := Q1.cell 4
      have qf4 := Q1.free 4
      have qc5 : y2.cell? ⟨w.heap.size, 5, none⟩ = some (.string ⟨#[]⟩) := Q1.cell 5
      have qf5 := Q1.free 5
      have qc6 : y2.cell? ⟨w.heap.size, 6, none⟩ = some (.string ⟨#[]⟩) := Q1.cell 6
      have qf6 := Q1.free 6
      have qc7 : y2.cell? ⟨w.heap.size, 7, none⟩ = some (.int .i64 0) := Q1.cell 7
      have qf7 := Q1.free 7
      have RF : RwC ((((((((y2.setCell ⟨w.heap.size, 0, none⟩ (.bool true)).setCell ⟨w.heap.size, 1, none⟩ (.slice (some ⟨gX, 0, none⟩) 32 32)).setCell ⟨w.heap.size, 2, none⟩ (.slice (some ⟨gY, 0, none⟩) 32 32)).setCell ⟨w.heap.size, 3, none⟩ (.int .i64 (dM b))).setCell ⟨w.heap.size, 4, none⟩ (.int .i64 (dL b))).setCell ⟨w.heap.size, 5, none⟩ (.string ⟨⟨dH b⟩⟩)).setCell ⟨w.heap.size, 6, none⟩ (.string ⟨⟨dP b⟩⟩)).setCell ⟨w.heap.size, 7, none⟩ (.int .i64 (dE b))) w.heap.size [.bool true, .slice (some ⟨gX, 0, none⟩) 32 32, .slice (some ⟨gY, 0, none⟩) 32 32, .int .i64 (dM b), .int .i64 (dL b), .string ⟨⟨dH b⟩⟩, .string ⟨⟨dP b⟩⟩, .int .i64 (dE b)] 30 := ((((((((Q1.set 0 (.bool true)).set 1 (.slice (some ⟨gX, 0, none⟩) 32 32)).set 2 (.slice (some ⟨gY, 0, none⟩) 32 32)).set 3 (.int .i64 (dM b))).set 4 (.int .i64 (dL b))).set 5 (.string ⟨⟨dH b⟩⟩)).set 6 (.string ⟨⟨dP b⟩⟩)).set 7 (.int .i64 (dE b)))
      have OF : Only w.heap.size y2 ((((((((y2.setCell ⟨w.heap.size, 0, none⟩ (.bool true)).setCell ⟨w.heap.size, 1, none⟩ (.slice (some ⟨gX, 0, none⟩) 32 32)).setCell ⟨w.heap.size, 2, none⟩ (.slice (some ⟨gY, 0, none⟩) 32 32)).setCell ⟨w.heap.size, 3, none⟩ (.int .i64 (dM b))).setCell ⟨w.heap.size, 4, none⟩ (.int .i64 (dL b))).setCell ⟨w.heap.size, 5, none⟩ (.string ⟨⟨dH b⟩⟩)).setCell ⟨w.heap.size, 6, none⟩ (.string ⟨⟨dP b⟩⟩)).setCell ⟨w.heap.size, 7, none⟩ (.int .i64 (dE b))) := ((((((((Only.refl w.heap.size y2).trans (Only.setCell _ w.heap.size 0 _)).trans (Only.setCell _ w.heap.size 1 _)).trans (Only.setCell _ w.heap.size 2 _)).trans (Only.setCell _ w.heap.size 3 _)).trans (Only.setCell _ w.heap.size 4 _)).trans (Only.setCell _ w.heap.size 5 _)).trans (Only.setCell _ w.heap.size 6 _)).trans (Only.setCell _ w.heap.size 7 _)
      have RR := RF.rangeG
      have NF := N1.trans (OF.below (B := w.heap.size) (Nat.le_refl _))
      have BX2 := hide (BX1.of_block (OF.block gX (by omega)))
      have BY2 := hide (BY1.of_block (OF.block gY (by omega)))
      clear RF OF
      go_wp2
      exact bodyPost_ret (v := .agg #[.bool true, .slice (some ⟨gX, 0, none⟩) 32 32, .slice (some ⟨gY, 0, none⟩) 32 32, .int .i64 (dM b), .int .i64 (dL b), .string ⟨⟨dH b⟩⟩, .string ⟨⟨dP b⟩⟩, .int .i64 (dE b)]) (results_cellG Tryz.results34 _ _ w.heap.size _ dR rfl RR hdR hrowR iSr) rfl ⟨NewD.good DG.out BX2.out BY2.out (by omega) (by omega) (by omega), NF⟩
    · have DG := hide (DB.out.trans (decide_eq_false hE))
      rw [decide_eq_false hE]
      clear SA DB hE
      have qc0 : y2.cell? ⟨w.heap.size, 0, none⟩ = some (.bool false) := Q1.cell 0
      have qf0 := Q1.free 0
      have qc1 : y2.cell? ⟨w.heap.size, 1, none⟩ = some (.slice none 0 0) := Q1.cell 1
      have qf1 := Q1.free 1
      have qc2 : y2.cell? ⟨w.heap.size, 2, none⟩ = some (.slice none 0 0) := Q1.cell 2
      have qf2 := Q1.free 2
      have qc3 : y2.cell? ⟨w.heap.size, 3, none⟩ = some (.int .i64 0) := Q1.cell 3
      have qf3 := Q1.free 3
      have qc4 : y2.cell? ⟨w.heap.size, 4, none⟩ = some (.int .i64 0) := Q1.cell 4
      have qf4 := Q1.free 4
      have qc5 : y2.cell? ⟨w.heap.size, 5, none⟩ = some (.string ⟨#[]⟩) := Q1.cell 5
      have qf5 := Q1.free 5
      have qc6 : y2.cell? ⟨w.heap.size, 6, none⟩ = some (.string ⟨#[]⟩) := Q1.cell 6
      have qf6 := Q1.free 6
      have qc7 : y2.cell? ⟨w.heap.size, 7, none⟩ = some (.int .i64 0) := Q1.cell 7
      have qf7 := Q1.free 7
      have RF : RwC ((((((((y2.setCell ⟨w.heap.size, 0, none⟩ (.bool false)).setCell ⟨w.heap.size, 1, none⟩ (.slice none 0 0)).setCell ⟨w.heap.size, 2, none⟩ (.slice none 0 0)).setCell ⟨w.heap.size, 3, none⟩ (.int .i64 0)).setCell ⟨w.heap.size, 4, none⟩ (.int .i64 0)).setCell ⟨w.heap.size, 5, none⟩ (.string ⟨#[]⟩)).setCell ⟨w.heap.size, 6, none⟩ (.string ⟨#[]⟩)).setCell ⟨w.heap.size, 7, none⟩ (.int .i64 0)) w.heap.size [.bool false, .slice none 0 0, .slice none 0 0, .int .i64 0, .int .i64 0, .string ⟨#[]⟩, .string ⟨#[]⟩, .int .i64 0] 30 := ((((((((Q1.set 0 (.bool false)).set 1 (.slice none 0 0)).set 2 (.slice none 0 0)).set 3 (.int .i64 0)).set 4 (.int .i64 0)).set 5 (.string ⟨#[]⟩)).set 6 (.string ⟨#[]⟩)).set 7 (.int .i64 0))
      have OF : Only w.heap.size y2 ((((((((y2.setCell ⟨w.heap.size, 0, none⟩ (.bool false)).setCell ⟨w.heap.size, 1, none⟩ (.slice none 0 0)).setCell ⟨w.heap.size, 2, none⟩ (.slice none 0 0)).setCell ⟨w.heap.size, 3, none⟩ (.int .i64 0)).setCell ⟨w.heap.size, 4, none⟩ (.int .i64 0)).setCell ⟨w.heap.size, 5, none⟩ (.string ⟨#[]⟩)).setCell ⟨w.heap.size, 6, none⟩ (.string ⟨#[]⟩)).setCell ⟨w.heap.size, 7, none⟩ (.int .i64 0)) := ((((((((Only.refl w.heap.size y2).trans (Only.setCell _ w.heap.size 0 _)).trans (Only.setCell _ w.heap.size 1 _)).trans (Only.setCell _ w.heap.size 2 _)).trans (Only.setCell _ w.heap.size 3 _)).trans (Only.setCell _ w.heap.size 4 _)).trans (Only.setCell _ w.heap.size 5 _)).trans (Only.setCell _ w.heap.size 6 _)).trans (Only.setCell _ w.heap.size 7 _)
      have RR := RF.rangeG
      have NF := N1.trans (OF.below (B := w.heap.size) (Nat.le_refl _))
      have KF : w.heap.size + 1 < ((((((((y2.setCell ⟨w.heap.size, 0, none⟩ (.bool false)).setCell ⟨w.heap.size, 1, none⟩ (.slice none 0 0)).setCell ⟨w.heap.size, 2, none⟩ (.slice none 0 0)).setCell ⟨w.heap.size, 3, none⟩ (.int .i64 0)).setCell ⟨w.heap.size, 4, none⟩ (.int .i64 0)).setCell ⟨w.heap.size, 5, none⟩ (.string ⟨#[]⟩)).setCell ⟨w.heap.size, 6, none⟩ (.string ⟨#[]⟩)).setCell ⟨w.heap.size, 7, none⟩ (.int .i64 0)).heap.size := by rw [OF.size]; omega
      clear RF OF
      go_wp2
      exact bodyPost_ret (v := .agg #[.bool false, .slice none 0 0, .slice none 0 0, .int .i64 0, .int .i64 0, .string ⟨#[]⟩, .string ⟨#[]⟩, .int .i64 0]) (results_cellG Tryz.results34 _ _ w.heap.size _ dR rfl RR hdR hrowR iSr) rfl ⟨NewD.bad DG.out (g := w.heap.size) (g' := w.heap.size + 1) (by omega) (Nat.le_refl _) (by omega) (by omega) KF, NF⟩
  · have DG : Hid (dsB b = false) := by
      show _ = _
      unfold dsB
      rw [dX_len, dY_len]
      simp [h0]
    generalize sfV 32 32 (dM b) (dL b) (dH b) (dP b).length (dE b) = R at *
    have qc0 : y1.cell? ⟨w.heap.size, 0, none⟩ = some (.bool false) := Q1.cell 0
    have qf0 := Q1.free 0
    have qc1 : y1.cell? ⟨w.heap.size, 1, none⟩ = some (.slice none 0 0) := Q1.cell 1
    have qf1 := Q1.free 1
    have qc2 : y1.cell? ⟨w.heap.size, 2, none⟩ = some (.slice none 0 0) := Q1.cell 2
    have qf2 := Q1.free 2
    have qc3 : y1.cell? ⟨w.heap.size, 3, none⟩ = some (.int .i64 0) := Q1.cell 3
    have qf3 := Q1.free 3
    have qc4 : y1.cell? ⟨w.heap.size, 4, none⟩ = some (.int .i64 0) := Q1.cell 4
    have qf4 := Q1.free 4
    have qc5 : y1.cell? ⟨w.heap.size, 5, none⟩ = some (.string ⟨#[]⟩) := Q1.cell 5
    have qf5 := Q1.free 5
    have qc6 : y1.cell? ⟨w.heap.size, 6, none⟩ = some (.string ⟨#[]⟩) := Q1.cell 6
    have qf6 := Q1.free 6
    have qc7 : y1.cell? ⟨w.heap.size, 7, none⟩ = some (.int .i64 0) := Q1.cell 7
    have qf7 := Q1.free 7
    have RF : RwC ((((((((y1.setCell ⟨w.heap.size, 0, none⟩ (.bool false)).setCell ⟨w.heap.size, 1, none⟩ (.slice none 0 0)).setCell ⟨w.heap.size, 2, none⟩ (.slice none 0 0)).setCell ⟨w.heap.size, 3, none⟩ (.int .i64 0)).setCell ⟨w.heap.size, 4, none⟩ (.int .i64 0)).setCell ⟨w.heap.size, 5, none⟩ (.string ⟨#[]⟩)).setCell ⟨w.heap.size, 6, none⟩ (.string ⟨#[]⟩)).setCell ⟨w.heap.size, 7, none⟩ (.int .i64 0)) w.heap.size [.bool false, .slice none 0 0, .slice none 0 0, .int .i64 0, .int .i64 0, .string ⟨#[]⟩, .string ⟨#[]⟩, .int .i64 0] 30 := ((((((((Q1.set 0 (.bool false)).set 1 (.slice none 0 0)).set 2 (.slice none 0 0)).set 3 (.int .i64 0)).set 4 (.int .i64 0)).set 5 (.string ⟨#[]⟩)).set 6 (.string ⟨#[]⟩)).set 7 (.int .i64 0))
    have OF : Only w.heap.size y1 ((((((((y1.setCell ⟨w.heap.size, 0, none⟩ (.bool false)).setCell ⟨w.heap.size, 1, none⟩ (.slice none 0 0)).setCell ⟨w.heap.size, 2, none⟩ (.slice none 0 0)).setCell ⟨w.heap.size, 3, none⟩ (.int .i64 0)).setCell ⟨w.heap.size, 4, none⟩ (.int .i64 0)).setCell ⟨w.heap.size, 5, none⟩ (.string ⟨#[]⟩)).setCell ⟨w.heap.size, 6, none⟩ (.string ⟨#[]⟩)).setCell ⟨w.heap.size, 7, none⟩ (.int .i64 0)) := ((((((((Only.refl w.heap.size y1).trans (Only.setCell _ w.heap.size 0 _)).trans (Only.setCell _ w.heap.size 1 _)).trans (Only.setCell _ w.heap.size 2 _)).trans (Only.setCell _ w.heap.size 3 _)).trans (Only.setCell _ w.heap.size 4 _)).trans (Only.setCell _ w.heap.size 5 _)).trans (Only.setCell _ w.heap.size 6 _)).trans (Only.setCell _ w.heap.size 7 _)
    have RR := RF.rangeG
    have NF := N1.trans (OF.below (B := w.heap.size) (Nat.le_refl _))
    have KF : w.heap.size + 1 < ((((((((y1.setCell ⟨w.heap.size, 0, none⟩ (.bool false)).setCell ⟨w.heap.size, 1, none⟩ (.slice none 0 0)).setCell ⟨w.heap.size, 2, none⟩ (.slice none 0 0)).setCell ⟨w.heap.size, 3, none⟩ (.int .i64 0)).setCell ⟨w.heap.size, 4, none⟩ (.int .i64 0)).setCell ⟨w.heap.size, 5, none⟩ (.string ⟨#[]⟩)).setCell ⟨w.heap.size, 6, none⟩ (.string ⟨#[]⟩)).setCell ⟨w.heap.size, 7, none⟩ (.int .i64 0)).heap.size := by rw [OF.size]; omega
    clear RF OF
    go_wp2
    exact bodyPost_ret (v := .agg #[.bool false, .slice none 0 0, .slice none 0 0, .int .i64 0, .int .i64 0, .string ⟨#[]⟩, .string ⟨#[]⟩, .int .i64 0]) (results_cellG Tryz.results34 _ _ w.heap.size _ dR rfl RR hdR hrowR iSr) rfl ⟨NewD.bad DG.out (g := w.heap.size) (g' := w.heap.size + 1) (by omega) (Nat.le_refl _) (by omega) (by omega) KF, NF⟩
end Go.Proofs.YtccnhdicibjbaaaGreat
namespace Go.Proofs.YtccnhdicibjbaaaGreat
open Go Go.RowKit
def tkM : List Int := [116, 105, 99, 107, 101, 116]
theorem tkM_byt : Byt tkM := fun i => by
  match i with
  | 0 | 1 | 2 | 3 | 4 | 5 => exact ⟨by decide, by decide⟩
  | n + 6 => exact ⟨by simp [tkM], by simp [tkM]⟩
def slA (key non E : List Int) : List Int := if 0 < E.length ∧ key.length = 32 ∧ non.length = 12 then non ++ seA key non tkM E else []
theorem slA_len (key non E : List Int) (h : E.length ≤ 242) : (slA key non E).length ≤ 300 := by
  unfold slA
  split
  · rename_i q
    rw [List.length_append]
    have := seA_len key non tkM E
    omega
  · simp
theorem esA_pos (X Y : List Int) (md li : Int) (ho pr : List UInt8) (ea : Int) : 0 < (esA X Y md li ho pr ea).length ↔ sfV X.length Y.length md li ho pr.length ea = 0 := by
  unfold esA
  by_cases h : sfV X.length Y.length md li ho pr.length ea = 0
  · rw [if_pos h, esL_len]
    exact ⟨fun _ => h, fun _ => by omega⟩
  · rw [if_neg h]
    exact ⟨fun q => absurd q (by simp), fun q => absurd q h⟩
theorem rd_tkM (w : World) (e : TypeId) (m : Nat × Nat) : Rd (w.alloc (.cells #[.int .u8 116, .int .u8 105, .int .u8 99, .int .u8 107, .int .u8 101, .int .u8 116] e m)) w.heap.size (some ⟨w.heap.size, 0, none⟩) .u8 tkM := fun _ => ⟨0, rfl, fun i hi => by
  have h : (w.alloc (.cells #[.int .u8 116, .int .u8 105, .int .u8 99, .int .u8 107, .int .u8 101, .int .u8 116] e m)).heap[w.heap.size]? = some (.cells #[.int .u8 116, .int .u8 105, .int .u8 99, .int .u8 107, .int .u8 101, .int .u8 116] e m) := heap_alloc_new w _
  have hi : i < 6 := hi
  simp only [World.cell?, h]
  rcases (by omega : i = 0 ∨ i = 1 ∨ i = 2 ∨ i = 3 ∨ i = 4 ∨ i = 5) with rfl | rfl | rfl | rfl | rfl | rfl
  all_goals rfl⟩
set_option maxRecDepth 100000 in
set_option maxHeartbeats 8000000 in
theorem implSl_any (w : World) (g : Nat) (a : Option Addr) (c : Nat) (key : List Int) (hr : Rd w g a .u8 key) (hb : Byt key) (hc : key.length ≤ c) (g' : Nat) (a' : Option Addr) (c' : Nat) (non : List Int) (hr' : Rd w g' a' .u8 non) (hb' : Byt non) (hz' : a' = none → c' = 0) (hc' : non.length ≤ c')
    (md li : Int) (ho pr : List UInt8) (ea : Int) (gx : Nat) (ax : Option Addr) (cx : Nat) (X : List Int) (hx : Rd w gx ax .u8 X) (bx : Byt X) (zx : ax = none → cx = 0) (gy : Nat) (ay : Option Addr) (cy : Nat) (Y : List Int) (hy : Rd w gy ay .u8 Y) (bY : Byt Y) (zy : ay = none → cy = 0) (hh : ho.length ≤ 1048576) (hp : pr.length ≤ 1048576) :
    Calls Tryz.prog 6 #[.slice a key.length c, .slice a' non.length c', .agg #[.slice ax X.length cx, .slice ay Y.length cy, .int .i64 md, .int .i64 li, .string ⟨⟨ho⟩⟩, .string ⟨⟨pr⟩⟩, .int .i64 ea]] w fun e w' => ∃ v, e = .returned v ∧ RowB w' w.heap.size v (slA key non (esA X Y md li ho pr ea)) ∧ Below w.heap.size w w' := by
  have n1 : Below w.heap.size w (w.alloc (.cells #[.slice ax X.length cx, .slice ay Y.length cy, .int .i64 md, .int .i64 li, .string ⟨⟨ho⟩⟩, .string ⟨⟨pr⟩⟩, .int .i64 ea] 24)) := (Below.refl _ _).alloc (Nat.le_refl _) _
  have P0 : RwC (w.alloc (.cells #[.slice ax X.length cx, .slice ay Y.length cy, .int .i64 md, .int .i64 li, .string ⟨⟨ho⟩⟩, .string ⟨⟨pr⟩⟩, .int .i64 ea] 24)) w.heap.size [.slice ax X.length cx, .slice ay Y.length cy, .int .i64 md, .int .i64 li, .string ⟨⟨ho⟩⟩, .string ⟨⟨pr⟩⟩, .int .i64 ea] 24 := RwC.new w _ _
  have EN := hide (implEnS_any (w.alloc (.cells #[.slice ax X.length cx, .slice ay Y.length cy, .int .i64 md, .int .i64 li, .string ⟨⟨ho⟩⟩, .string ⟨⟨pr⟩⟩, .int .i64 ea] 24)) md li ho pr ea gx ax cx X (hx.up n1) zx gy ay cy Y (hy.up n1) zy hh hp)
  have BE : Hid (Byt (esA X Y md li ho pr ea)) := byt_esA bx bY _ _ _ _ _
  have EL := hide (esA_len X Y md li ho pr ea)
  generalize esA X Y md li ho pr ea = E at *
  clear hx hy bx bY zx zy hh hp
  have e1 : Hid (slA key non E = if 0 < E.length ∧ key.length = 32 ∧ non.length = 12 then non ++ seA key non tkM E else []) := rfl
  have KY := fun W => isKey_any W a a' key.length non.length c c'
  by_cases h0 : 0 < E.length
  · have u0 : decide ((E.length : Int) = 0) = false := decide_eq_false (by omega)
    have u0' : ((E.length : Int) == 0) = false := beq_eq_false_iff_ne.2 (by omega)
    by_cases h1 : key.length = 32 ∧ non.length = 12
    · have kt : (decide (key.length = 32) && decide (non.length = 12)) = true := by simp [h1]
      rw [kt] at KY
      have e2 : Hid (slA key non E = non ++ seA key non tkM E) := by show _ = _; rw [e1.out, if_pos ⟨h0, h1⟩]
      rw [e2.out]
      clear e1 e2 kt
      have H1 := hide h1
      have SL := hide (seA_len key non tkM E)
      obtain ⟨T, hT⟩ : ∃ T, Hid (T = seA key non tkM E) := ⟨_, rfl⟩
      rw [← hT.out] at SL ⊢
      clear h1
      go_enter Tryz.func6, Tryz.ntmps6
      go_wp2_with fail
      generalize w.alloc (.cells #[.slice ax X.length cx, .slice ay Y.length cy, .int .i64 md, .int .i64 li, .string ⟨⟨ho⟩⟩, .string ⟨⟨pr⟩⟩, .int .i64 ea] 24) = wa at *
      refine EN.out.mono ?_
      rintro e w1 ⟨v1, rfl, R1, m1⟩
      have N := nxt n1 m1
      obtain ⟨a1, c1, g1, rfl, D1, z1, l1, -⟩ := R1.rd
      clear EN R1 n1 m1 P0
      go_wp2_with fail
      refine (KY _).mono ?_
      rintro e w2 ⟨rfl, h2⟩
      have h2 := h2.symm
      subst h2
      have n3 : Below w1.heap.size w1 (w1.alloc (.cells #[.int .u8 116, .int .u8 105, .int .u8 99, .int .u8 107, .int .u8 101, .int .u8 116] 5 (6, 7))) := (Below.refl _ _).alloc (Nat.le_refl _) _
      have BM := rd_tkM w1 5 (6, 7)
      have kc := Lib.run_convert_bytes_const (P := Tryz.prog) w1 22 5 #[.int .u8 116, .int .u8 105, .int .u8 99, .int .u8 107, .int .u8 101, .int .u8 116] 6 6 Tryz.underlying22 Tryz.underlying5
      have N3 := nxt N n3
      have SE := hide (implSeal_any (w1.alloc (.cells #[.int .u8 116, .int .u8 105, .int .u8 99, .int .u8 107, .int .u8 101, .int .u8 116] 5 (6, 7))) g a c key (hr.up N3) hb hc g' a' c' non (hr'.up N3) hb' hc' w1.heap.size (some ⟨w1.heap.size, 0, none⟩) 6 tkM BM tkM_byt (fun h => nomatch h) g1 a1 c1 E (D1.up n3) BE.out (by have := EL.out; show 6 + _ ≤ _; omega))
      rw [← hT.out] at SE
      clear BM n3 D1 KY
      rw [show tkM.length = 6 from rfl] at SE
      go_wp2_with fail
      clear kc
      generalize w1.alloc (.cells #[.int .u8 116, .int .u8 105, .int .u8 99, .int .u8 107, .int .u8 101, .int .u8 116] 5 (6, 7)) = w3 at *
      refine SE.out.mono ?_
      rintro e w4 ⟨⟨v4, rfl, R4⟩, m4⟩
      obtain ⟨a4, c4, g4, rfl, D4, z4, -, -⟩ := R4.rd
      have N4 := nxt N3 m4
      have LT := lsts_twoS w4 22 ⟨g', a', c', non⟩ ⟨g4, a4, c4, T⟩
      have n5 : Below w4.heap.size w4 (w4.alloc (.cells #[.slice a' non.length c', .slice a4 T.length c4] 22)) := (Below.refl _ _).alloc (Nat.le_refl _) _
      have D0 := hr'.up N4
      have CC := concatB_any (w4.alloc (.cells #[.slice a' non.length c', .slice a4 T.length c4] 22)) w4.heap.size 2 2 [⟨g', a', c', non⟩, ⟨g4, a4, c4, T⟩] rfl (by omega) LT (by
        intro x hx
        simp only [List.mem_cons, List.not_mem_nil, or_false] at hx
        rcases hx with rfl | rfl
        · exact ⟨D0.up n5, hz'⟩
        · exact ⟨D4.up n5, z4⟩) (by rw [cat2S, List.length_append]; have := H1.out; show 0 < non.length + T.length; omega) (by rw [cat2S, List.length_append]; have := H1.out; have := SL.out; have := EL.out; show non.length + T.length ≤ _; omega)
      rw [cat2S] at CC
      replace CC := hide CC
      have N5 := nxt N4 n5
      clear D0 D4 LT n5 R4 m4 SE
      go_wp2_with fail
      refine CC.out.mono ?_
      rintro e w6 ⟨⟨v6, rfl, R6⟩, m6⟩
      have zz := N5.size
      have N6 := nxt N5 m6
      go_wp2
      go_ret
      exact ⟨_, rfl, R6.base zz, N6⟩
    · have kt : (decide (key.length = 32) && decide (non.length = 12)) = false := by
        cases q : (decide (key.length = 32) && decide (non.length = 12))
        · rfl
        · simp at q; exact absurd q h1
      rw [kt] at KY
      have e2 : Hid (slA key non E = []) := by show _ = _; rw [e1.out, if_neg (fun q => h1 q.2)]
      rw [e2.out]
      clear e1 e2 kt h1
      go_enter Tryz.func6, Tryz.ntmps6
      go_wp2_with fail
      generalize w.alloc (.cells #[.slice ax X.length cx, .slice ay Y.length cy, .int .i64 md, .int .i64 li, .string ⟨⟨ho⟩⟩, .string ⟨⟨pr⟩⟩, .int .i64 ea] 24) = wa at *
      refine EN.out.mono ?_
      rintro e w1 ⟨v1, rfl, R1, m1⟩
      have N := nxt n1 m1
      obtain ⟨a1, c1, g1, rfl, D1, z1, l1, -⟩ := R1.rd
      go_wp2_with fail
      refine (KY _).mono ?_
      rintro e w2 ⟨rfl, h2⟩
      have h2 := h2.symm
      subst h2
      go_wp2
      go_ret
      exact ⟨_, rfl, RowB.nilN _ _, N⟩
  · have e2 : Hid (slA key non E = []) := by show _ = _; rw [e1.out, if_neg (fun q => h0 q.1)]
    have h0' : E.length = 0 := by omega
    rw [e2.out]
    clear e1 e2
    go_enter Tryz.func6, Tryz.ntmps6
    go_wp2_with fail
    generalize w.alloc (.cells #[.slice ax X.length cx, .slice ay Y.length cy, .int .i64 md, .int .i64 li, .string ⟨⟨ho⟩⟩, .string ⟨⟨pr⟩⟩, .int .i64 ea] 24) = wa at *
    refine EN.out.mono ?_
    rintro e w1 ⟨v1, rfl, R1, m1⟩
    have N := nxt n1 m1
    obtain ⟨a1, c1, g1, rfl, D1, z1, l1, -⟩ := R1.rd
    rw [h0']
    go_wp2
    go_ret
    exact ⟨_, rfl, RowB.nilN _ _, N⟩
end Go.Proofs.YtccnhdicibjbaaaGreat
namespace Go.Proofs.YtccnhdicibjbaaaGreat
open Go Go.RowKit
theorem cells8 : Tryz.prog.cellsOf 5 = 1 := by kernel_rfl
theorem part8 (w : World) (xs : List Int) (i : Nat) (h : i < xs.length) : (part 5 (xs.map (Value.int .u8)).toArray (i * 1)).run Tryz.prog w = .ok (.int .u8 (xs.getD i 0)) w := by
  have u3 := Tryz.underlying5
  have a3' := Tryz.isAgg5
  have z3 := Tryz.sizeOf5
  rw [Nat.mul_one]
  go_simp
theorem eqItems8 (w : World) (d : Nat) (xs ys : List Int) : ∀ is : List Nat, (∀ i ∈ is, i < xs.length ∧ i < ys.length) →
    (Op.eqItems (d + 1) 5 1 (xs.map (Value.int .u8)).toArray (ys.map (Value.int .u8)).toArray is).run Tryz.prog w = .ok (is.all fun i => xs.getD i 0 == ys.getD i 0) w
  | [], _ => by simp [Op.eqItems]
  | i :: is, h => by
    have h1 := h i (by simp)
    have ih := eqItems8 w d xs ys is (fun j hj => h j (by simp [hj]))
    simp only [Op.eqItems, Sem.run_bind, part8 w xs i h1.1, part8 w ys i h1.2, Result.andThen_ok, run_equalIn_int w d 5 .u8 .u8 _ _ Tryz.underlying5]
    rw [List.all_cons]
    cases (xs.getD i 0 == ys.getD i 0)
    · simp only [Bool.not_false, if_true, Sem.run_pure, Bool.false_and]
    · simp only [Bool.not_true, Bool.false_eq_true, if_false, Bool.true_and]
      exact ih
set_option maxRecDepth 100000 in
theorem eq16 (w : World) (xs ys : List Int) (hx : xs.length = 16) (hy : ys.length = 16) :
    (Op.equalIn 10000 53 (.agg (xs.map (Value.int .u8)).toArray) (.agg (ys.map (Value.int .u8)).toArray)).run Tryz.prog w = .ok (decide (xs = ys)) w := by
  obtain ⟨i0, hi, _⟩ := info_parts Tryz.info5
  rw [show (10000 : Nat) = 9999 + 1 from rfl, run_equalIn_array w 9999 _ _ undP16 hi, cells8, show (9999 : Nat) = 9998 + 1 from rfl, eqItems8 w 9998 xs ys (List.range 16) (fun i hi => by rw [hx, hy]; have := List.mem_range.1 hi; exact ⟨this, this⟩)]
  congr 1
  by_cases e : xs = ys
  · subst e; simp
  · rw [decide_eq_false e]
    cases hq : (List.range 16).all fun i => xs.getD i 0 == ys.getD i 0
    · rfl
    · exfalso
      rw [List.all_eq_true] at hq
      exact e (eq_of_getD (by rw [hx, hy]) (fun i hi => by have := hq i (List.mem_range.2 (by omega)); simpa using this))
end Go.Proofs.YtccnhdicibjbaaaGreat
namespace Go.Proofs.YtccnhdicibjbaaaGreat
open Go Go.RowKit
section
variable {P : Program} {ops : Array Oper} {Q : Exit → Act → World → Prop} {a0 : Act}
theorem region_run {id : Nat} {w : World} {draw : Bool} (k : Nat) (o : Oper) (F : Nat → Fact) (hm : P.follows .mixedOrders = true) (hT : textOk .any ops a0.tmps.size k = true) (hk : ops[k]? = some o) (dd : Nat) (hdd : o.dst = some dd) (steps : ∀ i, i < k → StepOk P .any ops Q F a0 w i)
    (fin : ∀ a w', Based ops a0 a → Below w.heap.size w w' → (∀ i o d, i < k → ops[i]? = some o → o.dst = some d → (F i).p (a.tmps.getD d undef) w') →
      ∃ v w'', (execOp a.eval o).run P w' = .ok (.value v) w'' ∧ Q .normal (a.put (some dd) v) w'') : (Code.region id ops draw).wp P Q a0 w := by
  refine region_facts k F hm hT steps fun a w' hb hw hf => ?_
  rw [hk]
  show o.wp P a w' (fun a' w'' => Q .normal a' w'') Q
  obtain ⟨v, w'', hr, hq⟩ := fin a w' hb hw hf
  unfold Oper.wp
  rw [hr]
  rw [← hdd] at hq
  exact hq
theorem region_copy {id : Nat} {w : World} {draw : Bool} (k : Nat) (o : Oper) (F : Nat → Fact) (hm : P.follows .mixedOrders = true) (hT : textOk .any ops a0.tmps.size k = true) (hk : ops[k]? = some o) (dd : Nat) (hdd : o.dst = some dd) (steps : ∀ i, i < k → StepOk P .any ops Q F a0 w i)
    (s x : Operand) (t tn ty : TypeId) (hop : o.op = .call { callee := .builtin .copy, args := #[s, x], argTypes := #[t, tn] }) (hty : o.type = ty)
    (fin : ∀ a w', Based ops a0 a → Below w.heap.size w w' → (∀ i o d, i < k → ops[i]? = some o → o.dst = some d → (F i).p (a.tmps.getD d undef) w') →
      ∃ v w'', (Builtin.copy_ #[t, tn] ty #[a.eval s, a.eval x]).run P w' = .ok v w'' ∧ Q .normal (a.put (some dd) v) w'') : (Code.region id ops draw).wp P Q a0 w := by
  refine region_run k o F hm hT hk dd hdd steps fun a w' hb hw hf => ?_
  obtain ⟨v, w'', hr, hq⟩ := fin a w' hb hw hf
  refine ⟨v, w'', ?_, hq⟩
  unfold execOp
  simp only [hop, hty, resolve, invoke, builtin, Sem.run_bind, Sem.run_pure, Result.andThen_ok, List.map_toArray, List.map_cons, List.map_nil, hr]
end
end Go.Proofs.YtccnhdicibjbaaaGreat
namespace Go.Proofs.YtccnhdicibjbaaaGreat
open Go Go.RowKit
def opT (sd : List Int) : List Int := sd.take (sd.length - 16)
def opS (sd : List Int) : List Int := sd.drop (sd.length - 16)
def opB (key non ex sd : List Int) : Bool := fitK key non && (decide (16 ≤ sd.length) && decide (ssB (nsW key non) ex (opT sd) = opS sd))
def opL (key non ex sd : List Int) : List Int := if opB key non ex sd = true then xt key non (opT sd) else []
theorem opL_len (key non ex sd : List Int) : (opL key non ex sd).length ≤ sd.length := by
  unfold opL
  split
  · rw [xt_len, opT, List.length_take]; omega
  · simp
def NewO (B : Nat) (w' : World) (e : Ending) (b : Bool) (ys : List Int) : Prop :=
  ∃ (a : Option Addr) (c g : Nat), e = .returned (.agg #[.bool b, .slice a ys.length c]) ∧ Own w' g a .u8 ys ∧ (a = none → c = 0) ∧ ys.length ≤ c ∧ B ≤ g
theorem newO_bad (w : World) (B : Nat) : NewO B w (.returned (.agg #[.bool false, .slice none 0 0])) false [] := ⟨none, 0, B, rfl, Own.nil _ _ _ _, fun _ => rfl, Nat.le_refl _, Nat.le_refl _⟩
set_option maxRecDepth 100000 in
theorem ne16 (xs ys : List Int) (hx : xs.length = 16) (hy : ys.length = 16) (x y : Nat) (w : World) : (do eqGuard .neq 53 (.tmp x) (.tmp y) (ag .u8 xs) (ag .u8 ys); binOp .neq 53 (ag .u8 xs) (ag .u8 ys) : Sem Value).run Tryz.prog w = .ok (.bool (!decide (xs = ys))) w := by
  have h : (eqGuard .neq 53 (.tmp x) (.tmp y) (ag .u8 xs) (ag .u8 ys)).run Tryz.prog w = .ok () w := by kernel_rfl
  have h2 : (binOp .neq 53 (ag .u8 xs) (ag .u8 ys)).run Tryz.prog w = .ok (.bool (!decide (xs = ys))) w := by
    have k := eq16 w xs ys hx hy
    show (do pure (.bool (!(← Op.equal 53 (ag .u8 xs) (ag .u8 ys)))) : Sem Value).run Tryz.prog w = _
    rw [Sem.run_bind]
    have k' : (Op.equal 53 (ag .u8 xs) (ag .u8 ys)).run Tryz.prog w = _ := k
    rw [k']
    rfl
  rw [Sem.run_bind, h]
  exact h2
theorem Rd.drop {w : World} {g : Nat} {a : Option Addr} {k : IntKind} {xs : List Int} (h : Rd w g a k xs) (n : Nat) (hn : n < xs.length) : ∃ o, a = some ⟨g, o, none⟩ ∧ Rd w g (some ⟨g, o + n, none⟩) k (xs.drop n) := by
  obtain ⟨o, rfl, hc⟩ := h (by omega)
  refine ⟨o, rfl, fun _ => ⟨o + n, rfl, fun i hi => ?_⟩⟩
  rw [List.length_drop] at hi
  rw [Nat.add_assoc, hc (n + i) (by omega), List.getD_eq_getElem?_getD, List.getD_eq_getElem?_getD, List.getElem?_drop]
theorem Rd.take {w : World} {g : Nat} {a : Option Addr} {k : IntKind} {xs : List Int} (h : Rd w g a k xs) (n : Nat) : Rd w g a k (xs.take n) := fun h0 => by
  rw [List.length_take] at h0
  obtain ⟨o, e, hc⟩ := h (by omega)
  refine ⟨o, e, fun i hi => ?_⟩
  rw [List.length_take] at hi
  rw [hc i (by omega), List.getD_eq_getElem?_getD, List.getD_eq_getElem?_getD, List.getElem?_take, if_pos (by omega)]
theorem blk_two {w : World} {g : Nat} {t : TypeId} {b : Bool} {v : Value} (h : w.heap[g]? = some (.cells #[.bool b, v] t (0, 0))) : w.cell? ⟨g, 0, none⟩ = some (.bool b) ∧ w.cell? ⟨g, 1, none⟩ = some v ∧ w.frozen? ⟨g, 0, none⟩ = false ∧ w.frozen? ⟨g, 1, none⟩ = false :=
  ⟨by rw [cell_of_row w g 0 _ t (0, 0) h]; rfl, by rw [cell_of_row w g 1 _ t (0, 0) h]; rfl, frozen_of_row w g 0 _ t h, frozen_of_row w g 1 _ t h⟩
set_option maxRecDepth 100000 in
set_option maxHeartbeats 16000000 in
theorem implOpen_any (w : World) (g : Nat) (a : Option Addr) (c : Nat) (key : List Int) (hr : Rd w g a .u8 key) (hb : Byt key) (hc : key.length ≤ c) (g' : Nat) (a' : Option Addr) (c' : Nat) (non : List Int) (hr' : Rd w g' a' .u8 non) (hb' : Byt non) (hc' : non.length ≤ c')
    (ge : Nat) (ae : Option Addr) (ce : Nat) (ex : List Int) (he : Rd w ge ae .u8 ex) (eb : Byt ex) (en : ae = none → ce = 0)
    (g2 : Nat) (a2 : Option Addr) (c2 : Nat) (sd : List Int) (hr2 : Rd w g2 a2 .u8 sd) (db : Byt sd) (dc : sd.length ≤ c2) (hs : ex.length + sd.length ≤ 4000000) :
    Calls Tryz.prog 14 #[.slice a key.length c, .slice a' non.length c', .slice ae ex.length ce, .slice a2 sd.length c2] w fun e w' => NewO w.heap.size w' e (opB key non ex sd) (opL key non ex sd) ∧ Below w.heap.size w w' := by
  have n0 : Below w.heap.size w (w.alloc (.cells #[.bool false, .slice none 0 0] 38)) := (Below.refl _ _).alloc (Nat.le_refl _) _
  have H0 : (w.alloc (.cells #[.bool false, .slice none 0 0] 38)).heap[w.heap.size]? = some (.cells #[.bool false, .slice none 0 0] 38 (0, 0)) := heap_alloc_last w _
  have z0 : (w.alloc (.cells #[.bool false, .slice none 0 0] 38)).heap.size = w.heap.size + 1 := by simp
  have IK := fun W => hide (isKey_any W a a' key.length non.length c c')
  by_cases h1 : (decide (key.length = 32) && decide (non.length = 12)) = true
  · simp only [h1] at IK
    have hk : fitK key non = true := h1
    by_cases h16 : 16 ≤ sd.length
    · have OB : Hid (opB key non ex sd = decide (ssB (nsW key non) ex (opT sd) = opS sd)) := by show _ = _; unfold opB; rw [hk, decide_eq_true h16]; rfl
      have OLt : Hid (opL key non ex sd = if decide (ssB (nsW key non) ex (opT sd) = opS sd) = true then xt key non (opT sd) else []) := by show _ = _; unfold opL; rw [OB.out]
      rw [OLt.out, OB.out]
      simp only [Bool.and_eq_true, decide_eq_true_eq] at h1
      obtain ⟨od, ea2, RS⟩ := hr2.drop (sd.length - 16) (by omega)
      have TL : Hid ((opT sd).length = sd.length - 16) := by show _ = _; unfold opT; rw [List.length_take]; omega
      have SL : Hid ((opS sd).length = 16) := by show _ = _; unfold opS; rw [List.length_drop]; omega
      have RT : Rd w g2 a2 .u8 (opT sd) := hr2.take _
      have RS : Rd w g2 (some ⟨g2, od + (sd.length - 16), none⟩) .u8 (opS sd) := RS
      have TB : Byt (opT sd) := byt_take db _
      have a2n : a2 = none → c2 = 0 := fun h => by rw [h] at ea2; cases ea2
      have HC := fun W => hide (hasC_any W 1 (by omega) (by omega) a2 (sd.length - 16) c2)
      simp only [hasC_short (sd.length - 16) (by omega)] at HC
      have NW := fun W (n : Below w.heap.size w W) => hide (newWords_any W g a c key (hr.up n) hb h1.1 hc g' a' c' non (hr'.up n) hb' h1.2 hc')
      have LY := fun W (n : Below w.heap.size w W) => hide (layOverR_any W _ (nsW_ws hb hb') (nsW_len key non) 1 (by omega) g2 a2 c2 (opT sd) (RT.up n) (by rw [TL.out]; omega) (by rw [TL.out]; omega))
      have XT : Hid (xt key non (opT sd) = xoG (nsW key non) 1 (opT sd) (((opT sd).length + 63) / 64)) := rfl
      simp only [← XT.out] at LY
      have SS := fun W (n : Below w.heap.size w W) => hide (sealSum_any W _ (nsW_ws hb hb') (nsW_len key non) ge ae ce ex (he.up n) eb en g2 a2 c2 (opT sd) (RT.up n) TB a2n (by rw [TL.out]; omega))
      have ML := hide (ssB_len (nsW key non) ex (opT sd))
      simp only [TL.out] at LY SS
      have NE := fun W x y => hide (ne16 (ssB (nsW key non) ex (opT sd)) (opS sd) ML.out SL.out x y W)
      have W16 : Hid (((nsW key non).map (Value.int .u32)).length = 16) := by show _ = _; rw [List.length_map]; exact nsW_len key non
      have OW := one_ints .u32 (nsW key non)
      have VW : Hid (ag .u32 (nsW key non) = Value.agg ((nsW key non).map (Value.int .u32)).toArray) := rfl
      simp only [VW.out] at LY SS NW
      generalize xt key non (opT sd) = T at *
      generalize ssB (nsW key non) ex (opT sd) = M at *
      generalize opS sd = S at *
      obtain ⟨ob, hob⟩ : ∃ b, b = decide (M = S) := ⟨_, rfl⟩
      rw [← hob]
      obtain ⟨ol, hol⟩ : ∃ l, l = if ob = true then T else [] := ⟨_, rfl⟩
      rw [← hol]
      have HOB := hide hob
      have HOL := hide hol
      clear hob hol
      obtain ⟨nw, hnw⟩ : ∃ l, l = nsW key non := ⟨_, rfl⟩
      rw [← hnw] at W16 OW
      simp only [← hnw] at LY SS NW
      have n16 : (16 : Int) ≤ (sd.length : Int) := by omega
      have m16 : (sd.length : Int) - 16 = ((sd.length - 16 : Nat) : Int) := by omega
      have mle : ((sd.length - 16 : Nat) : Int) ≤ (sd.length : Int) := by omega
      have mc : ((sd.length - 16 : Nat) : Int) ≤ (c2 : Int) := by omega
      have m0 : (0 : Int) ≤ ((sd.length - 16 : Nat) : Int) := by omega
      have dif : sd.length - (sd.length - 16) = 16 := by omega
      have ne : ¬ (c2 = sd.length - 16) := by omega
      have nlt : ¬ (sd.length : Int) < 16 := by omega
      have big : (sd.length : Int) ≤ 4000000 := by omega
      subst ea2
      clear hnw VW h1 hk OB OLt XT TB RT hr2 db dc hs a2n
      generalize hm : sd.length - 16 = m at *
      generalize hsl : sd.length = n at *
      have HM := hide hm
      clear hm hsl
      go_enter Tryz.func14, Tryz.ntmps14
      go_upto_region 1 with fail
      generalize w.alloc (.cells #[.bool false, .slice none 0 0] 38) = w1 at *
      go_wp2_with fail
      refine (IK w1).out.mono ?_
      rintro e w2 ⟨rfl, h⟩
      have h := h.symm
      subst h
      go_wp2_with fail
      refine (HC w1).out.mono ?_
      rintro e w2 ⟨rfl, h⟩
      have h := h.symm
      subst h
      clear IK HC
      have B3 := blk_y16 w1 53
      have n3 : Below w1.heap.size w1 (w1.alloc (.cells #[.int .u8 0, .int .u8 0, .int .u8 0, .int .u8 0, .int .u8 0, .int .u8 0, .int .u8 0, .int .u8 0, .int .u8 0, .int .u8 0, .int .u8 0, .int .u8 0, .int .u8 0, .int .u8 0, .int .u8 0, .int .u8 0] 53)) := (Below.refl _ _).alloc (Nat.le_refl _) _
      have z3 : (w1.alloc (.cells #[.int .u8 0, .int .u8 0, .int .u8 0, .int .u8 0, .int .u8 0, .int .u8 0, .int .u8 0, .int .u8 0, .int .u8 0, .int .u8 0, .int .u8 0, .int .u8 0, .int .u8 0, .int .u8 0, .int .u8 0, .int .u8 0] 53)).heap.size = w.heap.size + 1 + 1 := by simp [z0]
      go_upto_region 7 with fail
      generalize w1.alloc (.cells #[.int .u8 0, .int .u8 0, .int .u8 0, .int .u8 0, .int .u8 0, .int .u8 0, .int .u8 0, .int .u8 0, .int .u8 0, .int .u8 0, .int .u8 0, .int .u8 0, .int .u8 0, .int .u8 0, .int .u8 0, .int .u8 0] 53) = w3 at *
      rw [z0] at B3
      try rw [z0]
      have H3 := (n3.block w.heap.size (by omega)).trans H0
      have N3 := nxt n0 n3
      have RS3 := RS.up N3
      clear n0 n3 H0
      refine region_copy 5 _ (fun i => [Fact.eq (.slice (some ⟨w.heap.size + 1, 0, none⟩) 16 16), Fact.eq (.slice (some ⟨g2, od, none⟩) n c2), Fact.eq (.slice (some ⟨g2, od, none⟩) m c2), Fact.eq (.int .i64 (m : Int)), Fact.eq (.slice (some ⟨g2, od + m, none⟩) 16 (c2 - m))].getD i Fact.no) (by kernel_rfl) (by kernel_rfl) rfl 36 rfl ?_ (.tmp 31) (.tmp 35) 22 22 3 rfl rfl ?_
      · intro i hi
        obtain rfl | rfl | rfl | rfl | rfl : i = 0 ∨ i = 1 ∨ i = 2 ∨ i = 3 ∨ i = 4 := by omega
        · refine step_pure rfl fun f u hb hw hf => ?_
          have e10 : f.tmps[10]?.getD undef = .pointer (some ⟨w.heap.size + 1, 0, none⟩) := gdv (hb.2.2 10 (by kernel_rfl))
          exact ⟨.slice (some ⟨w.heap.size + 1, 0, none⟩) 16 16, by simp [go_sem, e10], rfl⟩
        · refine step_pure rfl fun f u hb hw hf => ?_
          have e3 : f.tmps[3]?.getD undef = .slice (some ⟨g2, od, none⟩) n c2 := gdv (hb.2.2 3 (by kernel_rfl))
          exact ⟨.slice (some ⟨g2, od, none⟩) n c2, by simp [go_sem, e3], rfl⟩
        · refine step_pure rfl fun f u hb hw hf => ?_
          have e9 : f.tmps[9]?.getD undef = .slice (some ⟨g2, od, none⟩) m c2 := gdv (hb.2.2 9 (by kernel_rfl))
          exact ⟨.slice (some ⟨g2, od, none⟩) m c2, by simp [go_sem, e9], rfl⟩
        · refine step_pure rfl fun f u hb hw hf => ?_
          have e33 : f.tmps[33]?.getD undef = .slice (some ⟨g2, od, none⟩) m c2 := gdv (hf 2 33 (by kernel_rfl))
          exact ⟨.int .i64 (m : Int), by simp [go_sem, e33], rfl⟩
        · refine step_pure rfl fun f u hb hw hf => ?_
          have e32 : f.tmps[32]?.getD undef = .slice (some ⟨g2, od, none⟩) n c2 := gdv (hf 1 32 (by kernel_rfl))
          have e34 : f.tmps[34]?.getD undef = .int .i64 (m : Int) := gdv (hf 3 34 (by kernel_rfl))
          exact ⟨.slice (some ⟨g2, od + m, none⟩) 16 (c2 - m), by simp [go_sem, e32, e34, mle, dif, ne], rfl⟩
      intro A w4 hb4 n4 hF
      have e31 : A.eval (.tmp 31) = .slice (some ⟨w.heap.size + 1, 0, none⟩) 16 16 := hF 0 _ 31 (by omega) rfl rfl
      have e35 : A.eval (.tmp 35) = .slice (some ⟨g2, od + m, none⟩) 16 (c2 - m) := hF 4 _ 35 (by omega) rfl rfl
      obtain ⟨w5, hcp, B5', O5⟩ := copy_blk (P := Tryz.prog) w4 22 3 5 Tryz.underlying22 rowB8 (B3.up n4) g2 (some ⟨g2, od + m, none⟩) S (RS3.up n4) (by rw [SL.out, List.length_replicate]; omega) 16 (c2 - m)
      rw [List.length_replicate, SL.out] at hcp
      have ES : S ++ (List.replicate 16 (0 : Int)).drop S.length = S := by rw [SL.out]; simp
      rw [SL.out] at B5'
      rw [SL.out] at ES
      rw [ES] at B5'
      refine ⟨_, w5, by rw [e31, e35]; exact hcp, ?_⟩
      obtain ⟨vs4, hvs⟩ : ∃ vs4 : Nat → Value, ∀ d, A.tmps.getD d undef = vs4 d := ⟨_, fun _ => rfl⟩
      rw [puts_of (md := .any) (k := 5) (by kernel_rfl) rfl hb4 vs4 hvs]
      have H5 := (O5.block w.heap.size (by omega)).trans ((n4.block w.heap.size (by omega)).trans H3)
      have N5 : Below w.heap.size w w5 := (nxt N3 n4).trans (O5.below (by omega))
      have z5 : w.heap.size + 1 + 1 ≤ w5.heap.size := by have := O5.size; have := n4.size; omega
      clear hb4 hF hvs e31 e35 hcp O5 n4 N3 H3 RS3 B3 ES z3
      simp only [puts, Act.put, List.setIfInBounds_toArray, List.set_cons_succ, List.set_cons_zero]
      go_wp2_with fail
      refine (NW w5 N5).out.mono ?_
      rintro e w6 ⟨rfl, n6⟩
      have n7 : Below w6.heap.size w6 (w6.alloc (.cells #[.int .u32 0, .int .u32 0, .int .u32 0, .int .u32 0, .int .u32 0, .int .u32 0, .int .u32 0, .int .u32 0, .int .u32 0, .int .u32 0, .int .u32 0, .int .u32 0, .int .u32 0, .int .u32 0, .int .u32 0, .int .u32 0] 56)) := (Below.refl _ _).alloc (Nat.le_refl _) _
      obtain ⟨t7, H7⟩ := blk_z16 w6 56
      have SR := blk_setRow (zs := nw) ⟨t7, H7⟩
      have OR := only_setRow (w6.alloc (.cells #[.int .u32 0, .int .u32 0, .int .u32 0, .int .u32 0, .int .u32 0, .int .u32 0, .int .u32 0, .int .u32 0, .int .u32 0, .int .u32 0, .int .u32 0, .int .u32 0, .int .u32 0, .int .u32 0, .int .u32 0, .int .u32 0] 56)) w6.heap.size (nw.map (Value.int .u32)).toArray
      obtain ⟨vw, hvw⟩ : ∃ v, v = nw.map (Value.int .u32) := ⟨_, rfl⟩
      have RGf : ∀ W q, Blk W q .u32 nw → W.rangeAt q 0 vw := fun W q h => by rw [hvw]; exact (Seg.blk h).range
      rw [← hvw] at W16 OW SR OR ⊢
      simp only [← hvw] at LY SS
      clear hvw NW
      have s6 := n6.size
      have U7 : ∀ b, b < w5.heap.size → ((w6.alloc (.cells #[.int .u32 0, .int .u32 0, .int .u32 0, .int .u32 0, .int .u32 0, .int .u32 0, .int .u32 0, .int .u32 0, .int .u32 0, .int .u32 0, .int .u32 0, .int .u32 0, .int .u32 0, .int .u32 0, .int .u32 0, .int .u32 0] 56)).setRow w6.heap.size vw.toArray).heap[b]? = w5.heap[b]? := fun b hb => (OR.block b (by omega)).trans ((n7.block b (by omega)).trans (n6.block b hb))
      have N7 : Below w.heap.size w ((w6.alloc (.cells #[.int .u32 0, .int .u32 0, .int .u32 0, .int .u32 0, .int .u32 0, .int .u32 0, .int .u32 0, .int .u32 0, .int .u32 0, .int .u32 0, .int .u32 0, .int .u32 0, .int .u32 0, .int .u32 0, .int .u32 0, .int .u32 0] 56)).setRow w6.heap.size vw.toArray) := (N5.trans (n6.mono N5.size)).trans ((n7.mono (by have := N5.size; omega)).trans (OR.below (B := w.heap.size) (by have := N5.size; omega)))
      go_upto_region 9 with (refine wpList_store_row rfl 56 (.tmp 11) (.tmp 39) rfl w6.heap.size vw.toArray rfl rfl t7 _ H7 (by rw [List.size_toArray, W16.out]; exact infoS) (by rw [List.size_toArray, List.size_toArray, W16.out]; rfl) OW ?_)
      have H8 := (U7 w.heap.size (by omega)).trans H5
      have B8 := B5'.of_block (U7 (w.heap.size + 1) (by omega))
      generalize (w6.alloc (.cells #[.int .u32 0, .int .u32 0, .int .u32 0, .int .u32 0, .int .u32 0, .int .u32 0, .int .u32 0, .int .u32 0, .int .u32 0, .int .u32 0, .int .u32 0, .int .u32 0, .int .u32 0, .int .u32 0, .int .u32 0, .int .u32 0] 56)).setRow w6.heap.size vw.toArray = w7 at *
      generalize w6.heap.size = q at *
      clear n7 OR H7 OW U7 H5 B5' n6 N5
      refine region_end 6 (fun i => [Fact.eq (.agg vw.toArray), Fact.eq (.slice ae ex.length ce), Fact.eq (.slice (some ⟨g2, od, none⟩) m c2), Fact.eq (ag .u8 M), Fact.eq (ag .u8 S), Fact.eq (.bool (!decide (M = S)))].getD i Fact.no) (by kernel_rfl) (by kernel_rfl) rfl ?_ ?_
      · intro i hi
        obtain rfl | rfl | rfl | rfl | rfl | rfl : i = 0 ∨ i = 1 ∨ i = 2 ∨ i = 3 ∨ i = 4 ∨ i = 5 := by omega
        · refine step_load rfl 56 (.tmp 11) rfl (.array 16 54) 16 undS rfl infoS fun f u hb hw hf => ?_
          exact ⟨q, 0, vw, hb.2.2 11 (by kernel_rfl), RGf u q (SR.up hw), W16.out, rfl⟩
        · refine step_pure rfl fun f u hb hw hf => ?_
          have e2 : f.tmps[2]?.getD undef = .slice ae ex.length ce := gdv (hb.2.2 2 (by kernel_rfl))
          exact ⟨.slice ae ex.length ce, by simp [go_sem, e2], rfl⟩
        · refine step_pure rfl fun f u hb hw hf => ?_
          have e9 : f.tmps[9]?.getD undef = .slice (some ⟨g2, od, none⟩) m c2 := gdv (hb.2.2 9 (by kernel_rfl))
          exact ⟨.slice (some ⟨g2, od, none⟩) m c2, by simp [go_sem, e9], rfl⟩
        · refine step_callv rfl 37 _ _ rfl (by kernel_rfl) fun f u hb hw hf => ?_
          have e40 : f.tmps.getD 40 undef = .agg vw.toArray := hf 0 40 (by kernel_rfl)
          have e41 : f.tmps.getD 41 undef = .slice ae ex.length ce := hf 1 41 (by kernel_rfl)
          have e42 : f.tmps.getD 42 undef = .slice (some ⟨g2, od, none⟩) m c2 := hf 2 42 (by kernel_rfl)
          show Calls Tryz.prog 37 #[f.tmps.getD 40 undef, f.tmps.getD 41 undef, f.tmps.getD 42 undef] u _
          rw [e40, e41, e42]
          exact (SS u (nxt N7 hw)).out.mono (by rintro e w' ⟨rfl, n⟩; exact ⟨_, rfl, n, rfl⟩)
        · refine step_load rfl 53 (.tmp 10) rfl (.array 16 5) 16 undP16 rfl infoP16 fun f u hb hw hf => ?_
          exact ⟨w.heap.size + 1, 0, S.map (Value.int .u8), hb.2.2 10 (by kernel_rfl), (Seg.blk (B8.up hw)).range, by rw [List.length_map]; exact SL.out, rfl⟩
        · refine step_pure rfl fun f u hb hw hf => ⟨.bool (!decide (M = S)), ?_, rfl⟩
          have e43 : f.eval (.tmp 43) = ag .u8 M := hf 3 43 (by kernel_rfl)
          have e44 : f.eval (.tmp 44) = ag .u8 S := hf 4 44 (by kernel_rfl)
          have k := (NE u 43 44).out
          show (execOp f.eval { dst := some 45, op := .binOp .neq 53 (.tmp 43) (.tmp 44) 53, type := _, pos := _, after := _, guard := _ }).run Tryz.prog u = _
          simp only [execOp, e43, e44]
          rw [Sem.run_bind, k]
          rfl
      intro A w8 hb8 n8 hF
      have e45 := hF 5 45 (by kernel_rfl)
      obtain ⟨vs8, hvs⟩ : ∃ vs8 : Nat → Value, ∀ d, A.tmps.getD d undef = vs8 d := ⟨_, fun _ => rfl⟩
      have v45 : vs8 45 = .bool (!decide (M = S)) := (hvs 45).symm.trans e45
      rw [puts_of (md := .any) (n := 51) (k := 6) (by kernel_rfl) rfl hb8 vs8 hvs]
      have H9 := (n8.block w.heap.size (by have := N7.size; have := H8; exact (Array.getElem?_eq_some_iff.1 H8).1)).trans H8
      have N8 := nxt N7 n8
      have SR8 := SR.up n8
      obtain ⟨c80, c81, f80, f81⟩ := blk_two H9
      clear hb8 hF hvs e45 SS NE B8 SR
      simp only [puts, v45, Act.put, List.setIfInBounds_toArray, List.set_cons_succ, List.set_cons_zero]
      by_cases hMS : M = S
      · have d1 : decide (M = S) = true := decide_eq_true hMS
        have EB : Hid (ob = true) := HOB.out.trans d1
        have EL : Hid (ol = T) := by show _ = _; rw [HOL.out, EB.out, if_pos rfl]
        rw [d1]
        clear HOB HOL
        have RG := RGf w8 q SR8
        clear hMS d1 ML
        go_wp2_with (refine wpList_load_mid rfl 56 (.tmp 11) rfl q 0 rfl vw (.array 16 54) RG undS rfl (by rw [W16.out]; exact infoS) ?_)
        refine (LY w8 N8).out.mono ?_
        rintro e w9 ⟨⟨v9, rfl, R9⟩, n9⟩
        obtain ⟨a9, c9, g9, rfl, o9, p9, q9, r9⟩ := R9.own
        have l8 := (Array.getElem?_eq_some_iff.1 H9).1
        have H10 := (n9.block w.heap.size l8).trans H9
        obtain ⟨c90, c91, f90, f91⟩ := blk_two H10
        have N9 := nxt N8 n9
        have O1 := (Only.setCell w9 w.heap.size 0 (.bool true)).trans (Only.setCell _ w.heap.size 1 (.slice a9 T.length c9))
        have o10 := o9.only O1 (fun _ => by omega)
        have N10 := N9.trans (O1.below (Nat.le_refl _))
        clear LY RGf SR8 RG n9 c80 c81 f80 f81 H10 R9 o9 O1
        go_wp2
        exact bodyPost_ret (v := .agg #[.bool true, .slice a9 T.length c9]) (by simp [results, Tryz.results14, go_sem, c90, c91]) rfl ⟨by rw [EB.out, EL.out]; exact ⟨a9, c9, g9, rfl, o10, p9, q9, by omega⟩, N10⟩
      · have d1 : decide (M = S) = false := decide_eq_false hMS
        have EB : Hid (ob = false) := HOB.out.trans d1
        have EL : Hid (ol = []) := by show _ = _; rw [HOL.out, EB.out, if_neg (by decide)]
        rw [d1]
        clear HOB HOL
        have O1 := (Only.setCell w8 w.heap.size 0 (.bool false)).trans (Only.setCell _ w.heap.size 1 (.slice none 0 0))
        have N10 := N8.trans (O1.below (Nat.le_refl _))
        clear hMS d1 ML LY RGf SR8 O1
        go_wp2
        exact bodyPost_ret (v := .agg #[.bool false, .slice none 0 0]) (by simp [results, Tryz.results14, go_sem, c80, c81]) rfl ⟨by rw [EB.out, EL.out]; exact newO_bad _ _, N10⟩
    · have OB : Hid (opB key non ex sd = false) := by show _ = _; unfold opB; rw [decide_eq_false h16]; simp
      have OLt : Hid (opL key non ex sd = []) := by show _ = _; unfold opL; rw [if_neg (by rw [OB.out]; decide)]
      rw [OLt.out, OB.out]
      have lt : (sd.length : Int) < 16 := by omega
      clear OB OLt
      go_enter Tryz.func14, Tryz.ntmps14
      go_upto_region 1 with fail
      generalize w.alloc (.cells #[.bool false, .slice none 0 0] 38) = w1 at *
      go_wp2_with fail
      refine (IK w1).out.mono ?_
      rintro e w2 ⟨rfl, h⟩
      have h := h.symm
      subst h
      obtain ⟨c10, c11, f10, f11⟩ := blk_two H0
      have O1 := (Only.setCell w1 w.heap.size 0 (.bool false)).trans (Only.setCell _ w.heap.size 1 (.slice none 0 0))
      have N10 := n0.trans (O1.below (Nat.le_refl _))
      clear IK O1
      go_wp2
      exact bodyPost_ret (v := .agg #[.bool false, .slice none 0 0]) (by simp [results, Tryz.results14, go_sem, c10, c11]) rfl ⟨newO_bad _ _, N10⟩
  · have h1' : (decide (key.length = 32) && decide (non.length = 12)) = false := by simpa using h1
    simp only [h1'] at IK
    have OB : Hid (opB key non ex sd = false) := by show _ = _; unfold opB fitK; rw [h1']; rfl
    have OLt : Hid (opL key non ex sd = []) := by show _ = _; unfold opL; rw [if_neg (by rw [OB.out]; decide)]
    rw [OLt.out, OB.out]
    clear OB OLt h1 h1'
    go_enter Tryz.func14, Tryz.ntmps14
    go_upto_region 1 with fail
    generalize w.alloc (.cells #[.bool false, .slice none 0 0] 38) = w1 at *
    go_wp2_with fail
    refine (IK w1).out.mono ?_
    rintro e w2 ⟨rfl, h⟩
    have h := h.symm
    subst h
    obtain ⟨c10, c11, f10, f11⟩ := blk_two H0
    have O1 := (Only.setCell w1 w.heap.size 0 (.bool false)).trans (Only.setCell _ w.heap.size 1 (.slice none 0 0))
    have N10 := n0.trans (O1.below (Nat.le_refl _))
    clear IK O1
    go_wp2
    exact bodyPost_ret (v := .agg #[.bool false, .slice none 0 0]) (by simp [results, Tryz.results14, go_sem, c10, c11]) rfl ⟨newO_bad _ _, N10⟩
end Go.Proofs.YtccnhdicibjbaaaGreat
