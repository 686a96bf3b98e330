
/-
  The laws' own helpers for a hash's state.
-/
import Derived.Test.YtljpjbojdekeiaaDoorHr32
import Derived.Test.YtljpjbojdekeiaaDoorHelp
namespace Go.Proofs.YtljpjbojdekeiaaDoor
set_option maxRecDepth 100000
open Go Go.RowKit

theorem szByteSH (w : World) (a : Option Addr) (n c : Nat) (left : Int) (hn : n < 9223372036854775808) (hl : 0 ≤ left) (hm : left ≤ 1048576) :
    Calls Tryd.prog 65 #[.slice a n c, .int .i64 left] w fun e w' => e = .returned (.int .i64 (if left < (n : Int) then -1 else left - (n : Int))) ∧ w' = w := by
  by_cases h : left < (n : Int)
  · have t1 : decide (left - (n : Int) < 0) = true := by simp; omega
    rw [if_pos h]
    go_enter Tryd.func65, Tryd.ntmps65
    go_wp2
    go_ret
    exact ⟨rfl, rfl⟩
  · have t1 : decide (left - (n : Int) < 0) = false := by simp; omega
    rw [if_neg h]
    go_enter Tryd.func65, Tryd.ntmps65
    go_wp2
    go_ret
    exact ⟨rfl, rfl⟩
set_option maxHeartbeats 1000000 in
theorem szState_any (w : World) (L : Int) (a a' : Option Addr) (n c n' c' : Nat) (left : Int) (hn : n < 9223372036854775808) (hn' : n' < 9223372036854775808) (hl : 0 ≤ left) (hm : left ≤ 1048576) :
    Calls Tryd.prog 28 #[.agg #[.int .i64 L, .slice a n c, .slice a' n' c'], .int .i64 left] w fun e w' => e = .returned (.int .i64 (if left < (n : Int) + (n' : Int) then -1 else left - (n : Int) - (n' : Int))) ∧ Below w.heap.size w w' := by
  have n1 : Below w.heap.size w (w.alloc (.cells #[.int .i64 L, .slice a n c, .slice a' n' c'] 39)) := (Below.refl _ _).alloc (Nat.le_refl _) _
  have T1 := C3.new w (.int .i64 L) (.slice a n c) (.slice a' n' c') 39
  have S1 := fun W => szByteSH W a n c left hn (by omega) (by omega)
  by_cases h : left < (n : Int)
  · rw [if_pos (show left < (n : Int) + (n' : Int) by omega)]
    rw [if_pos h] at S1
    go_enter Tryd.func28, Tryd.ntmps28
    go_wp2_with fail
    generalize w.alloc (.cells #[.int .i64 L, .slice a n c, .slice a' n' c'] 39) = w1 at *
    refine (S1 w1).mono ?_
    rintro e w2 ⟨rfl, rfl⟩
    go_wp2
    go_ret
    exact ⟨rfl, n1⟩
  · have t1 : decide (left - (n : Int) < 0) = false := by simp; omega
    have S2 := fun W => szByteSH W a' n' c' (left - (n : Int)) hn' (by omega) (by omega)
    rw [if_neg h] at S1
    by_cases h2 : left - (n : Int) < (n' : Int)
    · rw [if_pos (show left < (n : Int) + (n' : Int) by omega)]
      rw [if_pos h2] at S2
      go_enter Tryd.func28, Tryd.ntmps28
      go_wp2_with fail
      generalize w.alloc (.cells #[.int .i64 L, .slice a n c, .slice a' n' c'] 39) = w1 at *
      refine (S1 w1).mono ?_
      rintro e w2 ⟨rfl, rfl⟩
      have q2 := T1.c2
      go_wp2_with fail
      refine (S2 _).mono ?_
      rintro e w3 ⟨rfl, rfl⟩
      go_wp2
      go_ret
      exact ⟨rfl, n1⟩
    · have t2 : decide (left - (n : Int) - (n' : Int) < 0) = false := by simp; omega
      rw [if_neg (show ¬ left < (n : Int) + (n' : Int) by omega)]
      rw [if_neg h2] at S2
      go_enter Tryd.func28, Tryd.ntmps28
      go_wp2_with fail
      generalize w.alloc (.cells #[.int .i64 L, .slice a n c, .slice a' n' c'] 39) = w1 at *
      refine (S1 w1).mono ?_
      rintro e w2 ⟨rfl, rfl⟩
      have q2 := T1.c2
      go_wp2_with fail
      refine (S2 _).mono ?_
      rintro e w3 ⟨rfl, rfl⟩
      go_wp2
      go_ret
      exact ⟨rfl, n1⟩
/-- A state's copy: two lists of its own, in two blocks. -/
def StB (w : World) (v : Value) (B : Nat) (L : Int) (ws rs : List Int) : Prop := ∃ g g', v = .agg #[.int .i64 L, .slice (some ⟨g, 0, none⟩) ws.length ws.length, .slice (some ⟨g', 0, none⟩) rs.length rs.length] ∧ Blk w g .u8 ws ∧ Blk w g' .u8 rs ∧ B ≤ g ∧ g < g' ∧ g' < w.heap.size
theorem StB.up {w w' : World} {v : Value} {B : Nat} {L : Int} {ws rs : List Int} (h : StB w v B L ws rs) (n : Below w.heap.size w w') : StB w' v B L ws rs := by
  obtain ⟨g, g', e, b, b', q⟩ := h
  exact ⟨g, g', e, b.up n, b'.up n, q.1, q.2.1, Nat.lt_of_lt_of_le q.2.2 n.size⟩
theorem C3.set0 {w : World} {p : Nat} {x y z : Value} (h : C3 w p x y z) (u : Value) : C3 (w.setCell ⟨p, 0, none⟩ u) p u y z := ⟨World.cell?_setCell_same _ _ _ h.c0, by rw [World.cell?_setCell_other (h := by simp)]; exact h.c1, by rw [World.cell?_setCell_other (h := by simp)]; exact h.c2⟩
theorem C3.set1 {w : World} {p : Nat} {x y z : Value} (h : C3 w p x y z) (u : Value) : C3 (w.setCell ⟨p, 1, none⟩ u) p x u z := ⟨by rw [World.cell?_setCell_other (h := by simp)]; exact h.c0, World.cell?_setCell_same _ _ _ h.c1, by rw [World.cell?_setCell_other (h := by simp)]; exact h.c2⟩
theorem C3.set2 {w : World} {p : Nat} {x y z : Value} (h : C3 w p x y z) (u : Value) : C3 (w.setCell ⟨p, 2, none⟩ u) p x y u := ⟨by rw [World.cell?_setCell_other (h := by simp)]; exact h.c0, by rw [World.cell?_setCell_other (h := by simp)]; exact h.c1, World.cell?_setCell_same _ _ _ h.c2⟩
theorem C3.range {w : World} {p : Nat} {x y z : Value} (h : C3 w p x y z) : w.rangeAt p 0 [x, y, z] := fun j v hj => by
  match j, hj with
  | 0, hj => simp at hj; subst hj; exact h.c0
  | 1, hj => simp at hj; subst hj; exact h.c1
  | 2, hj => simp at hj; subst hj; exact h.c2
theorem there3_set {w : World} {p : Nat} (h : w.there p 0 3) (a : Addr) (v : Value) : (w.setCell a v).there p 0 3 := fun j hj => by
  have := h j hj
  refine ⟨?_, by rw [frozen_setCell]; exact this.2⟩
  by_cases e : (⟨p, 0 + j, none⟩ : Addr) = a
  · subst e
    obtain ⟨x, hx⟩ := Option.isSome_iff_exists.1 this.1
    rw [World.cell?_setCell_same _ _ _ hx]; rfl
  · rw [World.cell?_setCell_other (h := fun e' => e e'.symm)]; exact this.1
set_option maxHeartbeats 2000000 in
theorem toState_any (w : World) (L : Int) (g g' : Nat) (a a' : Option Addr) (c c' : Nat) (ws rs : List Int) (hw : Rd w g a .u8 ws) (hr : Rd w g' a' .u8 rs) (lw : ws.length ≤ 1048576) (lr : rs.length ≤ 1048576) :
    Calls Tryd.prog 30 #[.agg #[.int .i64 L, .slice a ws.length c, .slice a' rs.length c']] w fun e w' => (∃ v, e = .returned v ∧ StB w' v w.heap.size L ws rs) ∧ Below w.heap.size w w' := by
  obtain ⟨d3, hd3, hrow3⟩ := rowSt
  have T0 := C3.new w (.int .i64 L) (.slice a ws.length c) (.slice a' rs.length c') 39
  have n0 : Below w.heap.size w (w.alloc (.cells #[.int .i64 L, .slice a ws.length c, .slice a' rs.length c'] 39)) := (Below.refl _ _).alloc (Nat.le_refl _) _
  have z0 : (w.alloc (.cells #[.int .i64 L, .slice a ws.length c, .slice a' rs.length c'] 39)).heap.size = w.heap.size + 1 := by simp
  go_enter Tryd.func30, Tryd.ntmps30
  go_upto_region 2 with fail
  generalize w.alloc (.cells #[.int .i64 L, .slice a ws.length c, .slice a' rs.length c'] 39) = wa at *
  have n1 : Below wa.heap.size wa (wa.alloc (.cells #[.int .i64 0, .slice none 0 0, .slice none 0 0] 26)) := (Below.refl _ _).alloc (Nat.le_refl _) _
  have TH : (wa.alloc (.cells #[.int .i64 0, .slice none 0 0, .slice none 0 0] 26)).there wa.heap.size 0 3 := there3 (x := .int .i64 0) (y := .slice none 0 0) (z := .slice none 0 0) (t := 26) (by show (wa.heap.push _)[wa.heap.size]? = _; simp)
  have z1 : (wa.alloc (.cells #[.int .i64 0, .slice none 0 0, .slice none 0 0] 26)).heap.size = wa.heap.size + 1 := by simp
  generalize wa.alloc (.cells #[.int .i64 0, .slice none 0 0, .slice none 0 0] 26) = wb at *
  have n2 : Below wb.heap.size wb (wb.alloc (.cells #[.int .i64 0, .slice none 0 0, .slice none 0 0] 26)) := (Below.refl _ _).alloc (Nat.le_refl _) _
  have T2 := C3.new wb (.int .i64 0) (.slice none 0 0) (.slice none 0 0) 26
  have TH2 : (wb.alloc (.cells #[.int .i64 0, .slice none 0 0, .slice none 0 0] 26)).there wb.heap.size 0 3 := there3 (x := .int .i64 0) (y := .slice none 0 0) (z := .slice none 0 0) (t := 26) (by show (wb.heap.push _)[wb.heap.size]? = _; simp)
  have z2 : (wb.alloc (.cells #[.int .i64 0, .slice none 0 0, .slice none 0 0] 26)).heap.size = wb.heap.size + 1 := by simp
  replace T0 := (T0.up n1).up n2
  have THb := there_upn (by omega) TH n2
  generalize wb.alloc (.cells #[.int .i64 0, .slice none 0 0, .slice none 0 0] 26) = wc at *
  have N2 := nxt (nxt n0 n1) n2
  rw [z0] at z1 THb
  rw [z1] at z2 T2 TH2
  clear TH n0 n1 n2 z0 z1
  have fz : ∀ j, j < 3 → wc.frozen? ⟨w.heap.size + 1 + 1, j, none⟩ = false := fun j hj => by have := (TH2 j hj).2; rwa [Nat.zero_add] at this
  have fz0 := fz 0 (by omega)
  have q0 := T0.c0
  have k0 := T2.c0
  -- the length
  have O1 := Only.setCell wc (w.heap.size + 1 + 1) 0 (.int .i64 L)
  have T2a := T2.set0 (.int .i64 L)
  have TH2a := there3_set TH2 ⟨w.heap.size + 1 + 1, 0, none⟩ (.int .i64 L)
  have T0a := T0.of_block (O1.block w.heap.size (by omega))
  have THa : (wc.setCell ⟨w.heap.size + 1 + 1, 0, none⟩ (.int .i64 L)).there (w.heap.size + 1) 0 3 := there3_set THb _ _
  have N3 : Below w.heap.size w (wc.setCell ⟨w.heap.size + 1 + 1, 0, none⟩ (.int .i64 L)) := N2.trans (O1.below (by omega))
  have z3 : (wc.setCell ⟨w.heap.size + 1 + 1, 0, none⟩ (.int .i64 L)).heap.size = w.heap.size + 1 + 1 + 1 := O1.size.trans z2
  have q1 := T0a.c1
  go_upto_region 3 with fail
  generalize wc.setCell ⟨w.heap.size + 1 + 1, 0, none⟩ (.int .i64 L) = wd at *
  clear q0 k0 O1 T2 TH2 T0 THb N2 fz fz0
  go_wp2_with fail
  refine (toByteS_any wd g a c ws (hw.up N3) lw).mono ?_
  rintro e w1 ⟨rfl, B1, m1⟩
  have N4 := nxt N3 m1
  have T2b := T2a.up m1
  have TH2b := there_upn (by omega) TH2a m1
  have T0b := T0a.up m1
  have THc := there_upn (by omega) THa m1
  rw [z3] at B1 ⊢
  have y1 := m1.size
  rw [z3] at y1
  have f1 : w1.frozen? ⟨w.heap.size + 1 + 1, 1, none⟩ = false := by have := (TH2b 1 (by omega)).2; rwa [Nat.zero_add] at this
  have k1 := T2b.c1
  have O2 := Only.setCell w1 (w.heap.size + 1 + 1) 1 (.slice (some ⟨w.heap.size + 1 + 1 + 1, 0, none⟩) ws.length ws.length)
  have T2c := T2b.set1 (.slice (some ⟨w.heap.size + 1 + 1 + 1, 0, none⟩) ws.length ws.length)
  have TH2c := there3_set TH2b ⟨w.heap.size + 1 + 1, 1, none⟩ (.slice (some ⟨w.heap.size + 1 + 1 + 1, 0, none⟩) ws.length ws.length)
  have T0c := T0b.of_block (O2.block w.heap.size (by omega))
  have THd : (w1.setCell ⟨w.heap.size + 1 + 1, 1, none⟩ (.slice (some ⟨w.heap.size + 1 + 1 + 1, 0, none⟩) ws.length ws.length)).there (w.heap.size + 1) 0 3 := there3_set THc _ _
  have B1c := B1.of_block (O2.block (w.heap.size + 1 + 1 + 1) (by omega))
  have N5 : Below w.heap.size w (w1.setCell ⟨w.heap.size + 1 + 1, 1, none⟩ (.slice (some ⟨w.heap.size + 1 + 1 + 1, 0, none⟩) ws.length ws.length)) := N4.trans (O2.below (by omega))
  have z5 := O2.size
  have q2 := T0c.c2
  go_upto_region 4 with fail
  generalize w1.setCell ⟨w.heap.size + 1 + 1, 1, none⟩ (.slice (some ⟨w.heap.size + 1 + 1 + 1, 0, none⟩) ws.length ws.length) = we at *
  have Z5 := hide z5
  clear q1 k1 f1 O2 T2b TH2b T0b THc B1 N4 m1 T2a TH2a T0a THa N3 z5
  go_wp2_with fail
  refine (toByteS_any we g' a' c' rs (hr.up N5) lr).mono ?_
  rintro e w2 ⟨rfl, B2, m2⟩
  have N6 := nxt N5 m2
  have T2d := T2c.up m2
  have TH2d := there_upn (by omega) TH2c m2
  have THe := there_upn (by omega) THd m2
  have B1d := B1c.up m2
  have y2 := m2.size
  have ye : w.heap.size + 1 + 1 + 1 < we.heap.size := B1c.lt
  have y3 := B2.lt
  obtain ⟨q, hq⟩ : ∃ q, we.heap.size = q := ⟨_, rfl⟩
  rw [hq] at B2 ye y2 y3 ⊢
  have f2 : w2.frozen? ⟨w.heap.size + 1 + 1, 2, none⟩ = false := by have := (TH2d 2 (by omega)).2; rwa [Nat.zero_add] at this
  have k2 := T2d.c2
  have O3 := Only.setCell w2 (w.heap.size + 1 + 1) 2 (.slice (some ⟨q, 0, none⟩) rs.length rs.length)
  have T2e := T2d.set2 (.slice (some ⟨q, 0, none⟩) rs.length rs.length)
  have THf : (w2.setCell ⟨w.heap.size + 1 + 1, 2, none⟩ (.slice (some ⟨q, 0, none⟩) rs.length rs.length)).there (w.heap.size + 1) 0 3 := there3_set THe _ _
  have B1e := B1d.of_block (O3.block (w.heap.size + 1 + 1 + 1) (by omega))
  have B2e := B2.of_block (O3.block q (by omega))
  have N7 : Below w.heap.size w (w2.setCell ⟨w.heap.size + 1 + 1, 2, none⟩ (.slice (some ⟨q, 0, none⟩) rs.length rs.length)) := N6.trans (O3.below (by omega))
  have s7 := O3.size
  clear hq q2 T2c TH2c T0c THd B1c N5 m2 B1d B2 T2d TH2d THe
  go_upto_region 5 with fail
  generalize w2.setCell ⟨w.heap.size + 1 + 1, 2, none⟩ (.slice (some ⟨q, 0, none⟩) rs.length rs.length) = w3 at *
  have RG := T2e.range
  have RR := World.rangeAt_setCells_same w3 (w.heap.size + 1) 0 [.int .i64 L, .slice (some ⟨w.heap.size + 1 + 1 + 1, 0, none⟩) ws.length ws.length, .slice (some ⟨q, 0, none⟩) rs.length rs.length] THf
  have OQ := only_setCells w3 (w.heap.size + 1) [.int .i64 L, .slice (some ⟨w.heap.size + 1 + 1 + 1, 0, none⟩) ws.length ws.length, .slice (some ⟨q, 0, none⟩) rs.length rs.length] 0
  have N8 : Below w.heap.size w (w3.setCells (w.heap.size + 1) 0 [.int .i64 L, .slice (some ⟨w.heap.size + 1 + 1 + 1, 0, none⟩) ws.length ws.length, .slice (some ⟨q, 0, none⟩) rs.length rs.length]) := N7.trans (OQ.below (by omega))
  have B1f := B1e.of_block (OQ.block (w.heap.size + 1 + 1 + 1) (by omega))
  have B2f := B2e.of_block (OQ.block q (by omega))
  have S7 := hide (And.intro s7 y3)
  clear O3 k2 f2 T2e N7 B1e B2e N6 s7
  go_wp2_with (first
    | (refine wpList_load_mid rfl 26 (.tmp 3) rfl (w.heap.size + 1 + 1) 0 rfl [.int .i64 L, .slice (some ⟨w.heap.size + 1 + 1 + 1, 0, none⟩) ws.length ws.length, .slice (some ⟨q, 0, none⟩) rs.length rs.length] d3 RG hd3 hrow3 iSt ?_)
    | (refine wpList_store_mid rfl 26 (.tmp 2) (.tmp 15) rfl (w.heap.size + 1) 0 #[.int .i64 L, .slice (some ⟨w.heap.size + 1 + 1 + 1, 0, none⟩) ws.length ws.length, .slice (some ⟨q, 0, none⟩) rs.length rs.length] rfl rfl ?hth ?hin ?hon ?_))
  case hth => exact THf
  case hin => exact iSt
  case hon => exact one3 _ _ _ _ _ _ _
  exact bodyPost_ret (v := .agg #[.int .i64 L, .slice (some ⟨w.heap.size + 1 + 1 + 1, 0, none⟩) ws.length ws.length, .slice (some ⟨q, 0, none⟩) rs.length rs.length]) (results_cell_m Tryd.results30 _ _ (w.heap.size + 1) _ d3 rfl RR hd3 hrow3 iSt) rfl ⟨⟨_, rfl, w.heap.size + 1 + 1 + 1, q, rfl, B1f, B2f, by omega, by omega, B2f.lt⟩, N8⟩
end Go.Proofs.YtljpjbojdekeiaaDoor
