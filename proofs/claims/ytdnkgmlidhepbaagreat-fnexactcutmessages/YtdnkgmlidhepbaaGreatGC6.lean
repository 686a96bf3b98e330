import Derived.Test.YtdnkgmlidhepbaaGreatGC5
import Derived.Test.YtdnkgmlidhepbaaGreatGC4
import Derived.Lib.ConvBytes
import Derived.Deep.RegionHeld3
import Derived.Test.YtdnkgmlidhepbaaGreatGC1
import Derived.Test.YtdnkgmlidhepbaaGreatGC3
import Derived.Deep.DeepCutAuto
namespace Go.Proofs.YtdnkgmlidhepbaaGreat
open Go Go.RowKit
theorem or_wrap (m x : Int) (x0 : 0 ≤ x) (x1 : x < 256) : bits .or .i64 (wrap64 (m * 256)) x = wrap64 (wrap64 (m * 256) + x) := by
  have e : wrap64 (m * 256) = (wrap64 (m * 256) / 256) * 256 := by unfold wrap64; omega
  have b0 : -9223372036854775808 ≤ wrap64 (m * 256) := by unfold wrap64; omega
  have b1 : wrap64 (m * 256) < 9223372036854775808 := by unfold wrap64; omega
  have := or_byte (wrap64 (m * 256) / 256) x (by omega) (by omega) x0 x1
  rw [← e] at this
  rw [this]
  generalize hv : wrap64 (m * 256) = v at *
  unfold wrap64
  omega
theorem nmV_step (xs : List Int) (i k : Nat) : nmV xs i (k + 1) = wrap64 (wrap64 (nmV xs i k * 256) + xs.getD (i + k) 0) := by
  unfold nmV wrap64
  simp only [beN]
  omega
set_option maxRecDepth 100000 in
set_option maxHeartbeats 1000000 in
theorem numberG_any (w : World) (p g : Nat) (a : Option Addr) (c : Nat) (xs : List Int) (i t : Nat) (hC : Cur w p (.slice a xs.length c) i) (hr : Rd w g a .u8 xs) (hb : Byt xs) (hgp : 0 < xs.length → g ≠ p) (hi : i + t ≤ xs.length) (ht : t ≤ 8) (hn : xs.length ≤ 4194304) :
    Calls Tryz.prog 67 #[.pointer (some ⟨p, 0, none⟩), .int .i64 (t : Int)] w fun e w' => e = .returned (.int .i64 (nmV xs i t)) ∧ Cur w' p (.slice a xs.length c) ((i + t : Nat) : Int) ∧ Only p w w' := by
  go_enter Tryz.func67, Tryz.ntmps67
  go_wp2
  go_loopw [5, 7] (fun v j wr => ∃ k : Nat, k ≤ t ∧ v = .int .i64 (nmV xs i k) ∧ j = .int .i64 k ∧ Cur wr p (.slice a xs.length c) ((i + k : Nat) : Int) ∧ Only p w wr) (fun _ j _ => t - (intOf j).toNat)
  case atStart => exact ⟨0, Nat.zero_le _, by rw [show nmV xs i 0 = 0 by unfold nmV wrap64 beN; decide], rfl, hC, Only.refl _ _⟩
  case round =>
    obtain ⟨k, hk, rfl, rfl, C, O⟩ := hrel
    by_cases hlt : k < t
    · have TK := hide (take_ok wr p g a c xs (i + k) C (hr.of_block' (fun h => O.block g (hgp h))) (by omega) (by omega))
      have bx := hb (i + k)
      have OR := or_wrap (nmV xs i k) (xs.getD (i + k) 0) bx.1 bx.2
      have e := hide (nmV_step xs i k)
      generalize nmV xs i k = m at *
      generalize xs.getD (i + k) 0 = x at *
      have x0 := bx.1
      have x1 := bx.2
      have k1 : (k : Int) < (t : Int) := by omega
      clear bx C
      go_wp2_with fail
      refine TK.out.mono ?_
      rintro r w' ⟨rfl, C', O'⟩
      clear TK
      go_wp2
      go_roundw
      case rel => exact ⟨k + 1, by omega, by rw [e.out], by go_num, C', O.trans O'⟩
      case measure => simp [intOf]; omega
    · obtain rfl : k = t := by omega
      go_wp2
      go_ret
      exact ⟨rfl, C, O⟩
set_option maxRecDepth 100000 in
set_option maxHeartbeats 1000000 in
theorem number_bad (w : World) (p g : Nat) (a : Option Addr) (c : Nat) (xs : List Int) (i t : Nat) (hC : Cur w p (.slice a xs.length c) i) (hr : Rd w g a .u8 xs) (hgp : 0 < xs.length → g ≠ p) (hi : i ≤ xs.length) (hit : xs.length < i + t) (ht : t ≤ 8) (hn : xs.length ≤ 4194304) :
    Calls Tryz.prog 67 #[.pointer (some ⟨p, 0, none⟩), .int .i64 (t : Int)] w fun e w' => Pan e ∧ Only p w w' := by
  go_enter Tryz.func67, Tryz.ntmps67
  go_wp2
  go_loopw [5, 7] (fun v j wr => ∃ (k : Nat) (m : Int), i + k ≤ xs.length ∧ v = .int .i64 m ∧ j = .int .i64 k ∧ Cur wr p (.slice a xs.length c) ((i + k : Nat) : Int) ∧ Only p w wr) (fun _ j _ => t - (intOf j).toNat)
  case atStart => exact ⟨0, 0, hi, rfl, rfl, hC, Only.refl _ _⟩
  case round =>
    obtain ⟨k, m, hk, rfl, rfl, C, O⟩ := hrel
    have k1 : (k : Int) < (t : Int) := by omega
    by_cases hlt : i + k < xs.length
    · have TK := hide (take_ok wr p g a c xs (i + k) C (hr.of_block' (fun h => O.block g (hgp h))) (by omega) (by omega))
      generalize xs.getD (i + k) 0 = x at *
      clear C
      go_wp2_with fail
      refine TK.out.mono ?_
      rintro r w' ⟨rfl, C', O'⟩
      clear TK
      go_wp2
      go_roundw
      case rel => exact ⟨k + 1, _, by omega, rfl, by go_num, C', O.trans O'⟩
      case measure => simp [intOf]; omega
    · have TK := hide (take_bad wr p a xs.length c ((i + k : Nat) : Int) C (by omega))
      clear C
      go_wp2_with fail
      refine TK.out.mono ?_
      rintro r w' ⟨⟨u, v, rfl⟩, O'⟩
      clear TK
      go_wp2
      exact ⟨rfl, ⟨_, _, rfl⟩, O.trans O'⟩
end Go.Proofs.YtdnkgmlidhepbaaGreat
namespace Go.Proofs.YtdnkgmlidhepbaaGreat
open Go Go.RowKit
def TyB (w : World) (g : Nat) : Prop := ∃ cur, w.heap[g]? = some (.cells cur 5 (0, 0))
theorem TyB.of_made {w : World} {base g n : Nat} {xs : List Value} (h : w.ownsRow base 5 1 (.slice (some ⟨g, 0, none⟩) n n) n xs) : TyB w g := by
  rcases h.2 with ⟨h', _⟩ | ⟨g', cap', cur, h', _, hg, _⟩
  · simp at h'
  · simp only [Value.slice.injEq, Option.some.injEq, Addr.mk.injEq, and_true, true_and] at h'
    obtain ⟨rfl, rfl⟩ := h'
    exact ⟨cur, hg⟩
theorem TyB.set {w : World} {g : Nat} (h : TyB w g) (i : Nat) (v : Value) : TyB (w.setCell ⟨g, i, none⟩ v) g := by
  obtain ⟨cur, h⟩ := h
  exact ⟨_, heap_setCell_same w g i _ 5 _ h⟩
theorem RowB.of_tyb {w : World} {g B : Nat} {ys : List Int} (h : Blk w g .u8 ys) (t : TyB w g) (hB : B ≤ g) (hl : ys.length ≤ 1048576) : RowB w B (.slice (some ⟨g, 0, none⟩) ys.length ys.length) ys := by
  obtain ⟨e, h⟩ := h
  obtain ⟨cur, t⟩ := t
  rw [t] at h
  simp only [Option.some.injEq, Obj.cells.injEq, and_true] at h
  obtain ⟨rfl, rfl⟩ := h
  refine ⟨by simp, .inr ⟨g, ys.length, _, rfl, hB, t, Nat.le_refl _, by unfold maxLen; omega, by simp, ?_⟩⟩
  show List.take (ys.length * 1) (List.map (Value.int .u8) ys) = _
  exact List.take_of_length_le (by simp)
set_option maxHeartbeats 1000000 in
theorem l1BigB_any (w : World) (v : Int) (t : Nat) (h0 : 0 ≤ v) (h1 : v < 9223372036854775808) (ht : t ≤ 1048576) :
    Calls Tryz.prog 43 #[.int .i64 v, .int .i64 (t : Int)] w fun e w' => e = .returned (.slice (some ⟨w.heap.size, 0, none⟩) t t) ∧ RowB w' w.heap.size (.slice (some ⟨w.heap.size, 0, none⟩) t t) (bigL v t) ∧ Below w.heap.size w w' := by
  obtain ⟨i0, hi, hz0, hz1, hz2⟩ := info_parts Tryz.info5
  go_enter Tryz.func43, Tryz.ntmps43
  go_wp2_with (at_make; refine wpList_make_full _ rfl _ _ 22 rfl w.heap.size 5 i0 (.int .u8 0) 1 Tryz.underlying22 hi hz0 hz1 .i64 .i64 _ _ t rfl rfl rfl rfl (by rw [hz2]; omega) (by unfold maxLen; omega) (Nat.le_refl _) ?_; intro w1 hown hgrow)
  have hB0 := Blk.of_made hown
  have T0 := TyB.of_made hown
  have hN0 : Below w.heap.size w w1 := (Below.refl _ _).grown hgrow (Nat.le_refl _) (by simp)
  clear hown hgrow
  go_loopw [0, 6] (fun q i wr => ∃ (k : Nat) (u j : Int) (ys : List Int), k ≤ t ∧ q = .int .i64 u ∧ i = .int .i64 j ∧ j + (k : Int) + 1 = (t : Int) ∧ 0 ≤ u ∧ u < 9223372036854775808 ∧ Hid (u = v / 256 ^ k) ∧ BigTo v t ys k ∧ Blk wr w.heap.size .u8 ys ∧ TyB wr w.heap.size ∧ Below w.heap.size w wr) (fun _ i _ => (intOf i + 1).toNat)
  case atStart => exact ⟨0, v, (t : Int) - 1, _, Nat.zero_le _, rfl, by go_num, by omega, h0, h1, by show _ = _; simp, BigTo.zero v t, hB0, T0, hN0⟩
  case round =>
    obtain ⟨k, u, j, ys, hk, rfl, rfl, hj, u0, u1, hu, hT, hB, hTy, hN⟩ := hrel
    by_cases hlt : 0 ≤ j
    · obtain ⟨p, rfl⟩ := Int.eq_ofNat_of_zero_le hlt
      have R := hT.step (by omega)
      rw [show t - 1 - k = p by omega, ← hu.out] at R
      have hl : p < ys.length := by rw [hT.1]; omega
      have hcy := hB.cell hl
      have hfy := hB.free p
      have hB' := hB.store p (u % 256)
      have hTy' := hTy.set p (.int .u8 (u % 256))
      have hN' : Below w.heap.size w (wr.setCell ⟨w.heap.size, p, none⟩ (.int .u8 (u % 256))) := hN.setCell (Nat.le_refl _) _
      have hu' : Hid (u / 256 = v / 256 ^ (k + 1)) := by show _ = _; rw [hu.out, div256]
      have p1 : (p : Int) < (t : Int) := by omega
      have HJ := hide hj
      clear hB hN hu hT hj
      go_wp2
      go_roundw
      case rel => exact ⟨k + 1, u / 256, (p : Int) - 1, _, by have := HJ.out; omega, by go_num, by go_num, by have := HJ.out; omega, by omega, by omega, hu', R, hB', hTy', hN'⟩
      case measure => simp [intOf]
    · obtain rfl : k = t := by omega
      have K := hide hT.all
      obtain rfl : j = -1 := by omega
      clear hj hu hT
      go_wp2
      go_ret
      have RB := RowB.of_tyb (B := w.heap.size) hB hTy (Nat.le_refl _) (by rw [K.out, bigL_len]; exact ht)
      rw [K.out, bigL_len] at RB
      exact ⟨rfl, RB, hN⟩
set_option maxHeartbeats 1000000 in
theorem l1CopyN_any (w : World) (g : Nat) (a : Option Addr) (c : Nat) (xs : List Int) (hr : Rd w g a .u8 xs) (hc : a = none → c = 0) (hn : xs.length ≤ 1099511627776) :
    Calls Tryz.prog 28 #[.slice a xs.length c] w fun e w' => ∃ v, e = .returned v ∧ RowB w' w.heap.size v xs ∧ Below w.heap.size w w' := by
  obtain ⟨i0, hi, hz0, hz1, hz2⟩ := info_parts Tryz.info5
  have hal : Below w.heap.size w (w.alloc (.cells #[] 5)) := (Below.refl _ _).alloc (Nat.le_refl _) _
  obtain ⟨v', w2, hap, o2, n2⟩ := append_any (P := Tryz.prog) (w.alloc (.cells #[] 5)) 22 i0 Tryz.underlying22 hi hz0 hz1 hz2 w.heap.size w.heap.size _ [] (RowB.lit0 w) g a c xs (hr.up hal) hc (by simp; omega) (Nat.le_refl _) (by simp)
  rw [List.nil_append] at o2
  go_enter Tryz.func28, Tryz.ntmps28
  go_wp2_with (at_builtin; refine Lib.wpList_append_run _ rfl _ _ 22 22 rfl _ _ rfl rfl _ _ hap ?_)
  go_ret
  exact ⟨_, rfl, o2, hal.trans n2⟩
end Go.Proofs.YtdnkgmlidhepbaaGreat
namespace Go.Proofs.YtdnkgmlidhepbaaGreat
open Go Go.RowKit
set_option maxRecDepth 100000 in
theorem convT (w : World) (l : List UInt8) : ∃ (c : Nat) (w' : World), (convert 9 22 (.string ⟨⟨l⟩⟩)).run Tryz.prog w = .ok (.slice (some ⟨w.heap.size, 0, none⟩) l.length c) w' ∧ Rd w' w.heap.size (some ⟨w.heap.size, 0, none⟩) .u8 (txL l) ∧ l.length ≤ c ∧ Below w.heap.size w w' := by
  refine ⟨_, _, Lib.run_convert_string_bytes w 9 22 5 ⟨⟨l⟩⟩ Tryz.underlying9 Tryz.underlying22 Tryz.underlying5, fun _ => ⟨0, rfl, fun i hi => ?_⟩, grownCap_ge w _ 0 5, ⟨rfl, rfl, rfl, by rw [Lib.bytesWorld_size]; omega, fun b hb => Lib.bytesWorld_at_old w 5 _ b hb⟩⟩
  rw [txL_len] at hi
  rw [Nat.zero_add, Lib.bytesWorld_cell w 5 ⟨⟨l⟩⟩ i hi]
  unfold txL
  rw [List.getD_eq_getElem?_getD, List.getD_eq_getElem?_getD, List.getElem?_map]
  have h : l[i]? = some l[i] := List.getElem?_eq_getElem hi
  rw [h]
  simp
theorem wpList_convT {P : Program} (w : World) {ops : Array Oper} {rest : List Oper} {o : Oper} {a : Act} {Q : Exit → Act → World → Prop} (hgd : o.guard = none) (src dst : TypeId) (x : Operand) (ho : o.op = .convert src dst x) (v : Value) (hx : a.eval x = v)
    (v' : Value) (w' : World) (hr : (convert src dst v).run P w = .ok v' w') (h : wpList P ops Q rest (a.put o.dst v') w') : wpList P ops Q (o :: rest) a w :=
  wpList_plain hgd fun _ hK => by
    unfold Oper.wp execOp
    simp only [ho, hx]
    rw [Sem.run_bind, hr]
    exact hK _ _ h
theorem shL_is (l : List UInt8) (h : l.length ≤ 255) : shL l = ((l.length : Int) :: txL l) := by
  unfold shL bigL
  simp [List.range_succ]
  omega
set_option maxRecDepth 100000 in
set_option maxHeartbeats 1000000 in
theorem l13ShortR_any (w : World) (g : Nat) (a : Option Addr) (c : Nat) (xs : List Int) (h : Rd w g a .u8 xs) (hz : a = none → c = 0) (hl : xs.length ≤ 255) :
    Calls Tryz.prog 64 #[.slice a xs.length c] w fun e w' => ∃ v, e = .returned v ∧ RowB w' w.heap.size v ((xs.length : Int) :: xs) ∧ Below w.heap.size w w' := by
  obtain ⟨i0, hi, hz0, hz1, hz2⟩ := info_parts Tryz.info5
  have n0 : Below w.heap.size w (w.alloc (.cells #[.int .u8 (xs.length : Int)] 5)) := (Below.refl _ _).alloc (Nat.le_refl _) _
  obtain ⟨v1, w1, hap, R1, n1⟩ := append_any (P := Tryz.prog) (w.alloc (.cells #[.int .u8 (xs.length : Int)] 5)) 22 i0 Tryz.underlying22 hi hz0 hz1 hz2 w.heap.size w.heap.size _ _ (RowB.lit1 w (xs.length : Int)) g a c xs (h.up n0) hz (by simp; omega) (Nat.le_refl _) n0.size
  have N1 := n0.trans n1
  rw [List.cons_append, List.nil_append] at R1
  clear n0 n1 h
  go_enter Tryz.func64, Tryz.ntmps64
  go_wp2_with (at_builtin; refine Lib.wpList_append_run _ rfl _ _ 22 22 rfl _ _ rfl rfl _ _ hap ?_)
  go_ret
  exact ⟨_, rfl, R1, N1⟩
end Go.Proofs.YtdnkgmlidhepbaaGreat
namespace Go.Proofs.YtdnkgmlidhepbaaGreat
open Go Go.RowKit
end Go.Proofs.YtdnkgmlidhepbaaGreat
namespace Go.Proofs.YtdnkgmlidhepbaaGreat
open Go Go.RowKit
end Go.Proofs.YtdnkgmlidhepbaaGreat
namespace Go.Proofs.YtdnkgmlidhepbaaGreat
open Go Go.RowKit
end Go.Proofs.YtdnkgmlidhepbaaGreat
namespace Go.Proofs.YtdnkgmlidhepbaaGreat
open Go Go.RowKit
def NewR (B : Nat) (w' : World) (e : Ending) (gd : Bool) (xs ys : List Int) (md li : Int) (ho pr : List UInt8) (ea : Int) : Prop :=
  ∃ (a : Option Addr) (c g : Nat) (a' : Option Addr) (c' g' : Nat), e = .returned (.agg #[.bool gd, .slice a xs.length c, .slice a' ys.length c', .int .i64 md, .int .i64 li, .string ⟨⟨ho⟩⟩, .string ⟨⟨pr⟩⟩, .int .i64 ea]) ∧ Own w' g a .u8 xs ∧ Own w' g' a' .u8 ys ∧ g ≠ g' ∧ B ≤ g ∧ g < w'.heap.size ∧ B ≤ g' ∧ g' < w'.heap.size
def rX (b : List Int) : List Int := if dsB b = true then dX b else []
def rY (b : List Int) : List Int := if dsB b = true then dY b else []
def rM (b : List Int) : Int := if dsB b = true then dM b else 0
def rL (b : List Int) : Int := if dsB b = true then dL b else 0
def rH (b : List Int) : List UInt8 := if dsB b = true then dH b else []
def rP (b : List Int) : List UInt8 := if dsB b = true then dP b else []
def rE (b : List Int) : Int := if dsB b = true then dE b else 0
def NewD (B : Nat) (w' : World) (e : Ending) (b : List Int) : Prop := NewR B w' e (dsB b) (rX b) (rY b) (rM b) (rL b) (rH b) (rP b) (rE b)
theorem NewD.bad {B : Nat} {w' : World} {b : List Int} (h : dsB b = false) {g g' : Nat} (hne : g ≠ g') (l1 : B ≤ g) (l2 : B ≤ g') (k1 : g < w'.heap.size) (k2 : g' < w'.heap.size) :
    NewD B w' (.returned (.agg #[.bool false, .slice none 0 0, .slice none 0 0, .int .i64 0, .int .i64 0, .string ⟨#[]⟩, .string ⟨#[]⟩, .int .i64 0])) b := by
  have h' : ¬ dsB b = true := by rw [h]; decide
  unfold NewD rX rY rM rL rH rP rE
  rw [if_neg h', if_neg h', if_neg h', if_neg h', if_neg h', if_neg h', if_neg h', h]
  exact ⟨none, 0, g, none, 0, g', rfl, Own.nil _ _ _ _, Own.nil _ _ _ _, hne, l1, k1, l2, k2⟩
theorem Cur.onl {w w' : World} {p q : Nat} {l : Value} {i : Int} (h : Cur w p l i) (n : Only q w w') (hne : p ≠ q) : Cur w' p l i := h.of_block (n.block p hne)
end Go.Proofs.YtdnkgmlidhepbaaGreat
namespace Go.Proofs.YtdnkgmlidhepbaaGreat
open Go Go.RowKit
theorem RwC.kp {w w' : World} {q p : Nat} {cs : List Value} {t : TypeId} (h : RwC w q cs t) (n : Kp p w w') (hq : q ≠ p) : RwC w' q cs t := (n.block q h.lt hq).trans h
theorem Blk.kp {w w' : World} {q p : Nat} {k : IntKind} {ys : List Int} (h : Blk w q k ys) (n : Kp p w w') (hq : q ≠ p) : Blk w' q k ys := h.of_block (n.block q h.lt hq)
theorem Kp.onl {p q : Nat} {a b c : World} (h : Kp p a b) (k : Only q b c) (hq : a.heap.size ≤ q) : Kp p a c :=
  ⟨k.os.trans h.os, k.tape.trans h.tape, k.output.trans h.output, by rw [k.size]; exact h.size, fun i hi hp => (k.block i (by omega)).trans (h.block i hi hp)⟩
set_option maxRecDepth 100000 in
set_option maxHeartbeats 2000000 in
theorem short_any (w : World) (p g : Nat) (a : Option Addr) (c : Nat) (xs : List Int) (i : Nat) (hC : Cur w p (.slice a xs.length c) i) (hr : Rd w g a .u8 xs) (hb : Byt xs) (hgp : 0 < xs.length → g ≠ p) (hc0 : a = none → c = 0) (hc : xs.length ≤ c) (hn : xs.length ≤ 1048576) (hi : i ≤ xs.length) :
    Calls Tryz.prog 103 #[.pointer (some ⟨p, 0, none⟩)] w fun e w' => ((i + 1 + (beN xs i 1).toNat ≤ xs.length ∧ e = .returned (.string ⟨⟨txB (tkB xs (i + 1) (beN xs i 1).toNat)⟩⟩) ∧ Cur w' p (.slice a xs.length c) ((i + 1 + (beN xs i 1).toNat : Nat) : Int)) ∨ (xs.length < i + 1 + (beN xs i 1).toNat ∧ Pan e)) ∧ Kp p w w' := by
  by_cases h1 : i + 1 ≤ xs.length
  · have NM := hide (numberG_any w p g a c xs i 1 hC hr hb hgp h1 (by omega) (by omega))
    rw [nmV_small hb i 1 (by decide)] at NM
    have r := beN_rng hb i 1
    obtain ⟨n, hn1⟩ := Int.eq_ofNat_of_zero_le r.1
    have e1 : (beN xs i 1).toNat = n := by omega
    rw [e1]
    rw [hn1] at NM
    clear hn1 e1 r hC
    go_enter Tryz.func103, Tryz.ntmps103
    go_wp2_with fail
    refine NM.out.mono ?_
    rintro e w1 ⟨rfl, C1, O1⟩
    clear NM
    have hr1 := hr.of_block' (fun h => O1.block g (hgp h))
    by_cases h2 : i + 1 + n ≤ xs.length
    · have TL := hide (takeList_any w1 p g a c xs (i + 1) n C1 hr1 hc0 hc hn h1 h2)
      rw [tkB_take xs (i + 1) n h2] at TL
      have H2 := hide h2
      clear C1 hr1 h2
      go_wp2_with fail
      refine TL.out.mono ?_
      rintro e w2 ⟨rfl, B2, C2, K2⟩
      have cv := conv_run w2 _ _ n _ B2.own0.rd
      rw [tkB_len, str_is] at cv
      have KK := O1.kp.trans K2
      clear TL B2 K2 O1
      go_wp2
      go_ret
      exact ⟨.inl ⟨H2.out, rfl, C2⟩, KK⟩
    · have TL := hide (takeList_bad w1 p a xs.length c (i + 1) n C1 (by omega) hn h1)
      have H2 := hide (show xs.length < i + 1 + n by omega)
      clear C1 hr1 h2
      go_wp2_with fail
      refine TL.out.mono ?_
      rintro e w2 ⟨⟨t, v, rfl⟩, O2⟩
      go_wp2
      exact ⟨rfl, .inr ⟨H2.out, t, v, rfl⟩, O1.kp.trans O2.kp⟩
  · have NM := hide (number_bad w p g a c xs i 1 hC hr hgp hi (by omega) (by omega) (by omega))
    have H2 := hide (show xs.length < i + 1 + (beN xs i 1).toNat by omega)
    clear hC h1
    go_enter Tryz.func103, Tryz.ntmps103
    go_wp2_with fail
    refine NM.out.mono ?_
    rintro e w2 ⟨⟨t, v, rfl⟩, O2⟩
    go_wp2
    exact ⟨rfl, .inr ⟨H2.out, t, v, rfl⟩, O2.kp⟩
end Go.Proofs.YtdnkgmlidhepbaaGreat
namespace Go.Proofs.YtdnkgmlidhepbaaGreat
open Go Go.RowKit
set_option maxRecDepth 100000 in
set_option maxHeartbeats 2000000 in
theorem long_any (w : World) (p g : Nat) (a : Option Addr) (c : Nat) (xs : List Int) (i : Nat) (hC : Cur w p (.slice a xs.length c) i) (hr : Rd w g a .u8 xs) (hb : Byt xs) (hgp : 0 < xs.length → g ≠ p) (hc0 : a = none → c = 0) (hc : xs.length ≤ c) (hn : xs.length ≤ 1048576) (hi : i ≤ xs.length) :
    Calls Tryz.prog 105 #[.pointer (some ⟨p, 0, none⟩)] w fun e w' => ((i + 2 + (beN xs i 2).toNat ≤ xs.length ∧ (∃ G, e = .returned (.slice (some ⟨G, 0, none⟩) (beN xs i 2).toNat (beN xs i 2).toNat) ∧ Blk w' G .u8 (tkB xs (i + 2) (beN xs i 2).toNat) ∧ w.heap.size ≤ G) ∧ Cur w' p (.slice a xs.length c) ((i + 2 + (beN xs i 2).toNat : Nat) : Int)) ∨ (xs.length < i + 2 + (beN xs i 2).toNat ∧ Pan e)) ∧ Kp p w w' := by
  by_cases h1 : i + 2 ≤ xs.length
  · have NM := hide (numberG_any w p g a c xs i 2 hC hr hb hgp h1 (by omega) (by omega))
    rw [nmV_small hb i 2 (by decide)] at NM
    have r := beN_rng hb i 2
    obtain ⟨n, hn1⟩ := Int.eq_ofNat_of_zero_le r.1
    have e1 : (beN xs i 2).toNat = n := by omega
    rw [e1]
    rw [hn1] at NM
    clear hn1 e1 r hC
    go_enter Tryz.func105, Tryz.ntmps105
    go_wp2_with fail
    refine NM.out.mono ?_
    rintro e w1 ⟨rfl, C1, O1⟩
    clear NM
    have hr1 := hr.of_block' (fun h => O1.block g (hgp h))
    by_cases h2 : i + 2 + n ≤ xs.length
    · have TL := hide (takeList_any w1 p g a c xs (i + 2) n C1 hr1 hc0 hc hn h1 h2)
      rw [tkB_take xs (i + 2) n h2] at TL
      have H2 := hide h2
      clear C1 hr1 h2
      go_wp2_with fail
      refine TL.out.mono ?_
      rintro e w2 ⟨rfl, B2, C2, K2⟩
      have KK := O1.kp.trans K2
      have sz := O1.size
      rw [sz] at B2
      have HB := hide B2
      clear TL B2 K2 O1
      go_wp2
      go_ret
      exact ⟨.inl ⟨H2.out, ⟨_, rfl, HB.out, by omega⟩, C2⟩, KK⟩
    · have TL := hide (takeList_bad w1 p a xs.length c (i + 2) n C1 (by omega) hn h1)
      have H2 := hide (show xs.length < i + 2 + n by omega)
      clear C1 hr1 h2
      go_wp2_with fail
      refine TL.out.mono ?_
      rintro e w2 ⟨⟨t, v, rfl⟩, O2⟩
      go_wp2
      exact ⟨rfl, .inr ⟨H2.out, t, v, rfl⟩, O1.kp.trans O2.kp⟩
  · have NM := hide (number_bad w p g a c xs i 2 hC hr hgp hi (by omega) (by omega) (by omega))
    have H2 := hide (show xs.length < i + 2 + (beN xs i 2).toNat by omega)
    clear hC h1
    go_enter Tryz.func105, Tryz.ntmps105
    go_wp2_with fail
    refine NM.out.mono ?_
    rintro e w2 ⟨⟨t, v, rfl⟩, O2⟩
    go_wp2
    exact ⟨rfl, .inr ⟨H2.out, t, v, rfl⟩, O2.kp⟩
end Go.Proofs.YtdnkgmlidhepbaaGreat
namespace Go.Proofs.YtdnkgmlidhepbaaGreat
open Go Go.RowKit
def Kq (p q : Nat) (w w' : World) : Prop := Tch [p, q] w w'
theorem Kp.tch {p : Nat} {w w' : World} (h : Kp p w w') : Tch [p] w w' := ⟨h.os, h.tape, h.output, h.size, fun b hb hn => h.block b hb (by simpa using hn)⟩
set_option maxRecDepth 100000 in
set_option maxHeartbeats 2000000 in
theorem proofRead_any (w : World) (q p g : Nat) (a : Option Addr) (c : Nat) (xs : List Int) (t : TypeId) (hq : RwC w q [.slice none 0 0] t) (hqp : q ≠ p) (hC : Cur w p (.slice a xs.length c) ((0 : Nat) : Int)) (hr : Rd w g a .u8 xs) (hc0 : a = none → c = 0) (hc : xs.length ≤ c) (hn : xs.length ≤ 1048576) :
    Calls Tryz.prog 138 #[.pointer (some ⟨q, 0, none⟩), .pointer (some ⟨p, 0, none⟩)] w fun e w' => ((64 ≤ xs.length ∧ e = .returned (.tuple #[]) ∧ RwC w' q [.slice (some ⟨w.heap.size, 0, none⟩) 64 64] t ∧ Blk w' w.heap.size .u8 (xs.take 64)) ∨ (xs.length < 64 ∧ Pan e)) ∧ Kq p q w w' := by
  have hql := hq.lt
  by_cases h : 64 ≤ xs.length
  · have TL := hide (takeList_any w p g a c xs 0 64 hC hr hc0 hc hn (Nat.zero_le _) (by omega))
    have HQ := hide hq
    have H := hide h
    clear hC hr hq h
    go_enter Tryz.func138, Tryz.ntmps138
    go_wp2_with fail
    refine TL.out.mono ?_
    rintro e w2 ⟨rfl, B2, -, K2⟩
    have Q2 := HQ.out.kp K2 hqp
    have c0 : w2.cell? ⟨q, 0, none⟩ = some (.slice none 0 0) := Q2.cell 0
    have f0 := Q2.free 0
    have O := Only.setCell w2 q 0 (.slice (some ⟨w.heap.size, 0, none⟩) 64 64)
    have FQ : Hid (RwC (w2.setCell ⟨q, 0, none⟩ (.slice (some ⟨w.heap.size, 0, none⟩) 64 64)) q [.slice (some ⟨w.heap.size, 0, none⟩) 64 64] t) := Q2.set 0 _
    have FB := hide (B2.of_block (O.block w.heap.size (by omega)))
    have FT : Hid (Kq p q w (w2.setCell ⟨q, 0, none⟩ (.slice (some ⟨w.heap.size, 0, none⟩) 64 64))) := K2.tch.trans (Tch.of_only O)
    clear TL B2 K2 Q2 O HQ
    go_wp2
    go_end0
    exact ⟨.inl ⟨H.out, rfl, FQ.out, FB.out⟩, FT.out⟩
  · have TL := hide (takeList_bad w p a xs.length c 0 64 hC (by omega) hn (Nat.zero_le _))
    have H := hide (show xs.length < 64 by omega)
    clear hC hr hq h
    go_enter Tryz.func138, Tryz.ntmps138
    go_wp2_with fail
    refine TL.out.mono ?_
    rintro e w2 ⟨⟨t, v, rfl⟩, O2⟩
    go_wp2
    exact ⟨rfl, .inr ⟨H.out, t, v, rfl⟩, (Tch.of_only O2).mono (by simp)⟩
end Go.Proofs.YtdnkgmlidhepbaaGreat
