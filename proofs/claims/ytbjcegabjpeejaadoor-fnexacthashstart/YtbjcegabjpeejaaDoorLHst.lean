
/-
  The law of HashStart.
-/
import Derived.Test.YtbjcegabjpeejaaDoorHq32
import Derived.Test.YtbjcegabjpeejaaDoorLaidH
namespace Go.Proofs.YtbjcegabjpeejaaDoor
set_option maxRecDepth 100000
open Go Go.RowKit

abbrev zS : Obj := .cells #[.int .i64 0, .slice none 0 0, .slice none 0 0] 24
theorem thereS (w : World) : (w.alloc zS).there w.heap.size 0 3 := there3 (x := .int .i64 0) (y := .slice none 0 0) (z := .slice none 0 0) (t := 24) (by show (w.heap.push _)[w.heap.size]? = _; simp)
set_option maxHeartbeats 4000000 in
theorem specStart (w : World) :
    Calls Tryd.prog 10 #[] w fun e w' => (∃ v, e = .returned v ∧ ST3 w' v w.heap.size 0 (tell32 start32) []) ∧ Below w.heap.size w w' := by
  obtain ⟨d3, hd3, hrow3⟩ := rowSt
  have n0 : Below w.heap.size w (w.alloc zS) := (Below.refl _ _).alloc (Nat.le_refl _) _
  have TH := thereS w
  have z0 : (w.alloc zS).heap.size = w.heap.size + 1 := by simp
  have TD := fun W => hide (l6Tell_32 W start32 start_ok32)
  have NH := fun W => hide (l6Start_32 W)
  obtain ⟨ws, hws⟩ : ∃ l, l = tell32 start32 := ⟨_, rfl⟩
  rw [← hws] at TD ⊢
  clear hws
  generalize ag8 .u32 start32 = vs at *
  go_enter Tryd.func10, Tryd.ntmps10
  go_upto_region 1 with fail
  change Code.wp _ _ _ _ (w.alloc zS)
  generalize w.alloc zS = wa at *
  go_wp2_with fail
  refine (NH wa).out.mono ?_
  rintro r w1 ⟨rfl, n1⟩
  go_wp2_with fail
  refine (TD w1).out.mono ?_
  rintro r w2 ⟨⟨a1, c1, g1, rfl, o1, p1, q1, r1⟩, n2⟩
  have N2 := nxt (nxt n0 n1) n2
  have th := there_upn (by omega) TH (nxt n1 n2)
  have z1 := n1.size
  have RR := World.rangeAt_setCells_same w2 w.heap.size 0 [.int .i64 0, .slice a1 ws.length c1, .slice none 0 0] th
  have OQ := only_setCells w2 w.heap.size [.int .i64 0, .slice a1 ws.length c1, .slice none 0 0] 0
  have N3 : Below w.heap.size w (w2.setCells w.heap.size 0 [.int .i64 0, .slice a1 ws.length c1, .slice none 0 0]) := N2.trans (OQ.below (Nat.le_refl _))
  have o1' := o1.only OQ (fun _ => by omega)
  clear TD NH n1 n2 TH n0 N2 o1 OQ
  go_wp2_with (refine wpList_store_mid rfl 24 (.tmp 0) (.tmp 3) rfl w.heap.size 0 #[.int .i64 0, .slice a1 ws.length c1, .slice none 0 0] rfl rfl ?hth ?hin ?hon ?_)
  case hth => exact th
  case hin => exact iSt
  case hon => exact one3 _ _ _ _ _ _ _
  exact bodyPost_ret (v := .agg #[.int .i64 0, .slice a1 ws.length c1, .slice none 0 0]) (results_cell_m Tryd.results10 _ _ w.heap.size _ d3 rfl RR hd3 hrow3 iSt) rfl ⟨⟨_, rfl, a1, none, c1, 0, g1, g1, rfl, o1', Own.nil _ _ _ _, p1, fun _ => rfl, q1, Nat.zero_le _, by omega, by omega⟩, N3⟩

theorem box3 (w : World) (x y z : Value) (t : TypeId) : (w.alloc (.cells #[x, y, z] t)).cell? ⟨w.heap.size, 0, none⟩ = some x ∧ (w.alloc (.cells #[x, y, z] t)).cell? ⟨w.heap.size, 1, none⟩ = some y ∧ (w.alloc (.cells #[x, y, z] t)).cell? ⟨w.heap.size, 2, none⟩ = some z := by
  have hh : (w.alloc (.cells #[x, y, z] t)).heap[w.heap.size]? = some (.cells #[x, y, z] t (0, 0)) := by
    show (w.heap.push _)[w.heap.size]? = _
    simp
  exact ⟨by rw [cell_of_row _ _ _ _ _ _ hh]; rfl, by rw [cell_of_row _ _ _ _ _ _ hh]; rfl, by rw [cell_of_row _ _ _ _ _ _ hh]; rfl⟩
set_option maxHeartbeats 2000000 in
theorem eqState_same (w : World) (L : Int) (g g' h h' : Nat) (a a' b b' : Option Addr) (c c' e e' : Nat) (ws rs : List Int) (h1 : Rd w g a .u8 ws) (h2 : Rd w g' a' .u8 rs) (h3 : Rd w h b .u8 ws) (h4 : Rd w h' b' .u8 rs) (l1 : ws.length ≤ 1048576) (l2 : rs.length ≤ 1048576) :
    Calls Tryd.prog 12 #[.agg #[.int .i64 L, .slice a ws.length c, .slice a' rs.length c'], .agg #[.int .i64 L, .slice b ws.length e, .slice b' rs.length e']] w fun r w' => r = .returned (.bool true) ∧ Below w.heap.size w w' := by
  have n1 : Below w.heap.size w (w.alloc (.cells #[.int .i64 L, .slice a ws.length c, .slice a' rs.length c'] 24)) := (Below.refl _ _).alloc (Nat.le_refl _) _
  have n2 : Below w.heap.size w ((w.alloc (.cells #[.int .i64 L, .slice a ws.length c, .slice a' rs.length c'] 24)).alloc (.cells #[.int .i64 L, .slice b ws.length e, .slice b' rs.length e'] 24)) := n1.alloc (by simp) _
  go_enter Tryd.func12, Tryd.ntmps12
  go_wp2_with fail
  refine (eqByteS_same _ g h a b c e ws (h1.up n2) (h3.up n2) l1).mono ?_
  rintro r w3 ⟨rfl, n3⟩
  have N3 := nxt n2 n3
  obtain ⟨-, -, y2⟩ := box3 w (.int .i64 L) (.slice a ws.length c) (.slice a' rs.length c') 24
  obtain ⟨-, -, y5⟩ := box3 (w.alloc (.cells #[.int .i64 L, .slice a ws.length c, .slice a' rs.length c'] 24)) (.int .i64 L) (.slice b ws.length e) (.slice b' rs.length e') 24
  have z1 : (w.alloc (.cells #[.int .i64 L, .slice a ws.length c, .slice a' rs.length c'] 24)).heap.size = w.heap.size + 1 := by simp
  have s2 : Below (w.heap.size + 1) (w.alloc (.cells #[.int .i64 L, .slice a ws.length c, .slice a' rs.length c'] 24)) ((w.alloc (.cells #[.int .i64 L, .slice a ws.length c, .slice a' rs.length c'] 24)).alloc (.cells #[.int .i64 L, .slice b ws.length e, .slice b' rs.length e'] 24)) := (Below.refl _ _).alloc (by rw [z1]; exact Nat.le_refl _) _
  have x2 := (World.cell?_of_block (a := ⟨w.heap.size, 2, none⟩) (n3.block w.heap.size (by simp; omega))).trans ((World.cell?_of_block (a := ⟨w.heap.size, 2, none⟩) (s2.block w.heap.size (by omega))).trans y2)
  have x5 := (World.cell?_of_block (a := ⟨(w.alloc (.cells #[.int .i64 L, .slice a ws.length c, .slice a' rs.length c'] 24)).heap.size, 2, none⟩) (n3.block _ (by simp))).trans y5
  rw [z1] at x5
  go_wp2_with fail
  refine (eqByteS_same _ g' h' a' b' c' e' rs (h2.up N3) (h4.up N3) l2).mono ?_
  rintro r w4 ⟨rfl, n4⟩
  go_wp2
  go_ret
  exact ⟨rfl, nxt N3 n4⟩
set_option maxHeartbeats 2000000 in
theorem markState_nil (w : World) (L : Int) (g : Nat) (a a' : Option Addr) (c c' : Nat) (ws : List Int) (k : Int) (ha : Own w g a .u8 ws) (h0 : 0 < ws.length) (hn : ws.length ≤ 1048576) (k0 : 0 ≤ k) (k1 : k ≤ 1048576) :
    Calls Tryd.prog 13 #[.agg #[.int .i64 L, .slice a ws.length c, .slice a' 0 c'], .int .i64 k] w fun e w' => e = .returned (.int .i64 (k + (ws.length : Int))) ∧ Own w' g a .u8 (marks k ws.length) ∧ Bt g w w' := by
  have n1 : Below w.heap.size w (w.alloc (.cells #[.int .i64 L, .slice a ws.length c, .slice a' 0 c'] 24)) := (Below.refl _ _).alloc (Nat.le_refl _) _
  obtain ⟨-, -, y2⟩ := box3 w (.int .i64 L) (.slice a ws.length c) (.slice a' 0 c') 24
  have gl : g < w.heap.size := ha.rd.lt h0
  go_enter Tryd.func13, Tryd.ntmps13
  go_wp2_with fail
  generalize w.alloc (.cells #[.int .i64 L, .slice a ws.length c, .slice a' 0 c'] 24) = wa at *
  refine (markByteS_any wa g a c ws k (ha.up n1) hn k0 (by omega)).mono ?_
  rintro r w2 ⟨rfl, o2, O2⟩
  have x2 : w2.cell? ⟨w.heap.size, 2, none⟩ = some (.slice a' 0 c') := by
    rw [World.cell?_of_block (a := ⟨w.heap.size, 2, none⟩) (O2.block w.heap.size (by omega))]
    exact y2
  go_wp2_with fail
  refine (markByteS_any w2 (w2.heap.size) a' c' [] (k + (ws.length : Int)) (Own.nil _ _ _ _) (by simp) (by omega) (by omega)).mono ?_
  rintro r w3 ⟨rfl, -, O3⟩
  have n3 := O3.below (B := w2.heap.size) (Nat.le_refl _)
  have B3 := ((Bt.of_below (q := g) n1).trans (Bt.of_only O2)).trans (Bt.of_below n3)
  have o3 := o2.up n3
  clear O2 O3 n3 o2 x2 y2
  go_wp2
  go_ret
  exact ⟨by simp, o3, B3⟩
set_option maxHeartbeats 2000000 in
theorem heldState_nil (w : World) (L : Int) (g : Nat) (a a' : Option Addr) (c c' n : Nat) (k : Int) (ha : Rd w g a .u8 (marks k n)) (hn : n ≤ 1048576) (k0 : 0 ≤ k) (k1 : k ≤ 1048576) :
    Calls Tryd.prog 14 #[.agg #[.int .i64 L, .slice a n c, .slice a' 0 c'], .int .i64 k] w fun e w' => e = .returned (.int .i64 (k + (n : Int))) ∧ Below w.heap.size w w' := by
  have n1 : Below w.heap.size w (w.alloc (.cells #[.int .i64 L, .slice a n c, .slice a' 0 c'] 24)) := (Below.refl _ _).alloc (Nat.le_refl _) _
  obtain ⟨-, -, y2⟩ := box3 w (.int .i64 L) (.slice a n c) (.slice a' 0 c') 24
  have t1 : decide (k + (n : Int) < 0) = false := by simp; omega
  go_enter Tryd.func14, Tryd.ntmps14
  go_wp2_with fail
  generalize w.alloc (.cells #[.int .i64 L, .slice a n c, .slice a' 0 c'] 24) = wa at *
  refine (heldByteS_any wa g a c n k (ha.up n1) hn k0 (by omega)).mono ?_
  rintro r w2 ⟨rfl, rfl⟩
  go_wp2_with fail
  refine (heldByteS_any w2 0 a' c' 0 (k + (n : Int)) (by intro h; rw [marks_len] at h; omega) (by omega) (by omega) (by omega)).mono ?_
  rintro r w3 ⟨rfl, rfl⟩
  go_wp2
  go_ret
  exact ⟨by simp, n1⟩

theorem laid_hst {W : World} (h : laidMetH Tryd.prog Rows.fnExactHashStartRow.laid W) : HasT W 0 stL := start_of (reads_ofH h (by kernel_rfl) (.head _))
/-- What a state that is stored leaves. -/
theorem put3 {w : World} {q : Nat} (th : w.there q 0 3) (L : Int) (a a' : Option Addr) (m m' c c' : Nat) : (w.setCells q 0 [.int .i64 L, .slice a m c, .slice a' m' c']).rangeAt q 0 [.int .i64 L, .slice a m c, .slice a' m' c'] := World.rangeAt_setCells_same w q 0 _ th
theorem range_upn {W W' : World} {q : Nat} {x : Value} {cs : List Value} (h : W.rangeAt q 0 (x :: cs)) (k : Below W.heap.size W W') : W'.rangeAt q 0 (x :: cs) := by
  have l := block_lt_of_cell (h 0 x rfl)
  exact fun j v hv => (World.cell?_of_block (a := ⟨q, 0 + j, none⟩) (k.block q l)).trans (h j v hv)
theorem range_bt {W W' : World} {q g : Nat} {x : Value} {cs : List Value} (h : W.rangeAt q 0 (x :: cs)) (k : Bt g W W') (hq : q ≠ g) : W'.rangeAt q 0 (x :: cs) := by
  have l := block_lt_of_cell (h 0 x rfl)
  exact fun j v hv => (World.cell?_of_block (a := ⟨q, 0 + j, none⟩) (k.block q l hq)).trans (h j v hv)
set_option maxHeartbeats 4000000 in
theorem hst_law (w : World) (hL : HasT w 0 stL) :
    Calls Tryd.prog 3 #[] w fun e w' => e = .returned (.bool true) ∧ Below w.heap.size w w' := by
  obtain ⟨d3, hd3, hrow3⟩ := rowSt
  have SP := fun W => hide (specStart W)
  have IM := fun W n => hide (implStart W (hL.up n))
  have tl : (tell32 start32).length = 32 := tell_len32 _
  obtain ⟨ws, hws⟩ : ∃ l, l = tell32 start32 := ⟨_, rfl⟩
  rw [← hws] at SP IM tl
  clear hws
  have TL := hide tl
  have wl : ws.length ≤ 1048576 := by omega
  have w0 : 0 < ws.length := by omega
  clear tl
  go_enter Tryd.func3, Tryd.ntmps3
  go_wp2_with fail
  refine (SP w).out.mono ?_
  rintro r w1 ⟨⟨v, rfl, a1, b1, c1, d1, g1, h1, rfl, o1, -, p1, -, q1, -, r1, -⟩, n1⟩
  have t1 := thereS w1
  have m1 : Below w1.heap.size w1 (w1.alloc zS) := (Below.refl _ _).alloc (Nat.le_refl _) _
  have R1 := put3 t1 0 a1 b1 ws.length ([] : List Int).length c1 d1
  have Q1 := only_setCells (w1.alloc zS) w1.heap.size [.int .i64 0, .slice a1 ws.length c1, .slice b1 ([] : List Int).length d1] 0
  have l1 := o1.rd.lt w0
  have N1 : Below w.heap.size w ((w1.alloc zS).setCells w1.heap.size 0 [.int .i64 0, .slice a1 ws.length c1, .slice b1 ([] : List Int).length d1]) := (nxt n1 m1).trans (Q1.below n1.size)
  have O1 := (o1.up m1).only Q1 (fun _ => by omega)
  have z1 := n1.size
  go_wp2_with (refine wpList_store_mid rfl 24 (.tmp 1) (.tmp 6) rfl w1.heap.size 0 #[.int .i64 0, .slice a1 ws.length c1, .slice b1 0 d1] rfl rfl ?hth ?hin ?hon ?_)
  case hth => exact t1
  case hin => exact iSt
  case hon => exact one3 _ _ _ _ _ _ _
  change Calls _ _ _ ((w1.alloc zS).setCells w1.heap.size 0 [.int .i64 0, .slice a1 ws.length c1, .slice b1 ([] : List Int).length d1]) _
  have s1 : w1.heap.size < ((w1.alloc zS).setCells w1.heap.size 0 [.int .i64 0, .slice a1 ws.length c1, .slice b1 ([] : List Int).length d1]).heap.size := by rw [Q1.size]; simp
  generalize (w1.alloc zS).setCells w1.heap.size 0 [.int .i64 0, .slice a1 ws.length c1, .slice b1 ([] : List Int).length d1] = W1 at *
  obtain ⟨k1, hk1⟩ : ∃ k, k = w1.heap.size := ⟨_, rfl⟩
  rw [← hk1] at R1 s1 z1 l1 ⊢
  clear hk1 t1 m1 Q1 o1 n1
  refine (IM W1 N1).out.mono ?_
  rintro r w2 ⟨⟨v, rfl, a2, b2, c2, d2, g2, h2, rfl, o2, -, p2, -, q2, -, r2, -⟩, n2⟩
  have t2 := thereS w2
  have m2 : Below w2.heap.size w2 (w2.alloc zS) := (Below.refl _ _).alloc (Nat.le_refl _) _
  have R2 := put3 t2 0 a2 b2 ws.length ([] : List Int).length c2 d2
  have Q2 := only_setCells (w2.alloc zS) w2.heap.size [.int .i64 0, .slice a2 ws.length c2, .slice b2 ([] : List Int).length d2] 0
  have l2 := o2.rd.lt w0
  have z2 := n2.size
  have N2 : Below w.heap.size w ((w2.alloc zS).setCells w2.heap.size 0 [.int .i64 0, .slice a2 ws.length c2, .slice b2 ([] : List Int).length d2]) := (nxt (nxt N1 n2) m2).trans (Q2.below (by omega))
  have O2 := (o2.up m2).only Q2 (fun _ => by omega)
  have n12 : Below W1.heap.size W1 ((w2.alloc zS).setCells w2.heap.size 0 [.int .i64 0, .slice a2 ws.length c2, .slice b2 ([] : List Int).length d2]) := (nxt n2 m2).trans (Q2.below z2)
  have O12 := O1.up n12
  have R12 := range_upn R1 n12
  go_wp2_with (first
    | (refine wpList_store_mid rfl 24 (.tmp 2) (.tmp 7) rfl w2.heap.size 0 #[.int .i64 0, .slice a2 ws.length c2, .slice b2 0 d2] rfl rfl ?hth ?hin ?hon ?_)
    | (refine wpList_load_mid rfl 24 (.tmp 2) rfl w2.heap.size 0 rfl _ d3 R2 hd3 hrow3 iSt ?_)
    | (refine wpList_load_mid rfl 24 (.tmp 1) rfl k1 0 rfl _ d3 R12 hd3 hrow3 iSt ?_))
  case hth => exact t2
  case hin => exact iSt
  case hon => exact one3 _ _ _ _ _ _ _
  change Calls _ _ _ ((w2.alloc zS).setCells w2.heap.size 0 [.int .i64 0, .slice a2 ws.length c2, .slice b2 ([] : List Int).length d2]) _
  have s2 : w2.heap.size < ((w2.alloc zS).setCells w2.heap.size 0 [.int .i64 0, .slice a2 ws.length c2, .slice b2 ([] : List Int).length d2]).heap.size := by rw [Q2.size]; simp
  generalize (w2.alloc zS).setCells w2.heap.size 0 [.int .i64 0, .slice a2 ws.length c2, .slice b2 ([] : List Int).length d2] = W2 at *
  obtain ⟨k2, hk2⟩ : ∃ k, k = w2.heap.size := ⟨_, rfl⟩
  rw [← hk2] at R2 s2 z2 l2 ⊢
  clear hk2 t2 m2 Q2 o2 n2 n12 O1 R1
  refine (eqState_same W2 0 g2 0 g1 0 a2 b2 a1 b1 c2 d2 c1 d1 ws [] O2.rd (Rd.nil _ _ _ _) O12.rd (Rd.nil _ _ _ _) wl (by simp)).mono ?_
  rintro r w3 ⟨rfl, n3⟩
  have N3 := nxt N2 n3
  have O3 := O2.up n3
  have O13 := O12.up n3
  have R3 := range_upn R2 n3
  have R13 := range_upn R12 n3
  have z3 := n3.size
  clear O2 O12 R2 R12 n3
  go_wp2_with (refine wpList_load_mid rfl 24 (.tmp 2) rfl k2 0 rfl _ d3 R3 hd3 hrow3 iSt ?_)
  refine (markState_nil w3 0 g2 a2 b2 c2 d2 ws 1 O3 w0 wl (by decide) (by decide)).mono ?_
  rintro r w4 ⟨rfl, O4, B4⟩
  have N4 : Below w.heap.size w w4 := N3.trans (B4.below (by omega) N3.size)
  have O14 := O13.of_block (B4.block g1 (by omega) (by omega))
  have R4 := range_bt R3 B4 (by omega)
  have R14 := range_bt R13 B4 (by omega)
  have z4 := B4.size
  have t3 : decide ((1 : Int) + (ws.length : Int) < 0) = false := by simp; omega
  clear O3 O13 R3 R13 B4
  go_wp2_with (refine wpList_load_mid rfl 24 (.tmp 2) rfl k2 0 rfl _ d3 R4 hd3 hrow3 iSt ?_)
  refine (heldState_nil w4 0 g2 a2 b2 c2 d2 ws.length 1 O4.rd wl (by decide) (by decide)).mono ?_
  rintro r w5 ⟨rfl, n5⟩
  have N5 := nxt N4 n5
  have O5 := O4.up n5
  have O15 := O14.up n5
  have R5 := range_upn R4 n5
  have R15 := range_upn R14 n5
  have z5 := n5.size
  clear O4 O14 R4 R14 n5
  go_wp2_with fail
  refine (IM w5 N5).out.mono ?_
  rintro r w6 ⟨⟨v, rfl, a6, b6, c6, d6, g6, h6, rfl, o6, -, p6, -, q6, -, r6, -⟩, n6⟩
  have t6 := thereS w6
  have m6 : Below w6.heap.size w6 (w6.alloc zS) := (Below.refl _ _).alloc (Nat.le_refl _) _
  have R6 := put3 t6 0 a6 b6 ws.length ([] : List Int).length c6 d6
  have Q6 := only_setCells (w6.alloc zS) w6.heap.size [.int .i64 0, .slice a6 ws.length c6, .slice b6 ([] : List Int).length d6] 0
  have l6 := o6.rd.lt w0
  have z6 := n6.size
  have N6 : Below w.heap.size w ((w6.alloc zS).setCells w6.heap.size 0 [.int .i64 0, .slice a6 ws.length c6, .slice b6 ([] : List Int).length d6]) := (nxt (nxt N5 n6) m6).trans (Q6.below (by omega))
  have O6 := (o6.up m6).only Q6 (fun _ => by omega)
  have n56 : Below w5.heap.size w5 ((w6.alloc zS).setCells w6.heap.size 0 [.int .i64 0, .slice a6 ws.length c6, .slice b6 ([] : List Int).length d6]) := (nxt n6 m6).trans (Q6.below z6)
  have O56 := O5.up n56
  have O16 := O15.up n56
  have R56 := range_upn R5 n56
  have R16 := range_upn R15 n56
  clear O5 O15 R5 R15 n6 n56
  go_wp2_with (first
    | (refine wpList_store_mid rfl 24 (.tmp 5) (.tmp 23) rfl w6.heap.size 0 #[.int .i64 0, .slice a6 ws.length c6, .slice b6 0 d6] rfl rfl ?hth ?hin ?hon ?_)
    | (refine wpList_load_mid rfl 24 (.tmp 5) rfl w6.heap.size 0 rfl _ d3 R6 hd3 hrow3 iSt ?_)
    | (refine wpList_load_mid rfl 24 (.tmp 1) rfl k1 0 rfl _ d3 R16 hd3 hrow3 iSt ?_))
  case hth => exact t6
  case hin => exact iSt
  case hon => exact one3 _ _ _ _ _ _ _
  change Calls _ _ _ ((w6.alloc zS).setCells w6.heap.size 0 [.int .i64 0, .slice a6 ws.length c6, .slice b6 ([] : List Int).length d6]) _
  generalize (w6.alloc zS).setCells w6.heap.size 0 [.int .i64 0, .slice a6 ws.length c6, .slice b6 ([] : List Int).length d6] = W6 at *
  refine (eqState_same W6 0 g6 0 g1 0 a6 b6 a1 b1 c6 d6 c1 d1 ws [] O6.rd (Rd.nil _ _ _ _) O16.rd (Rd.nil _ _ _ _) wl (by simp)).mono ?_
  rintro r w7 ⟨rfl, n7⟩
  have N7 := nxt N6 n7
  have O7 := O56.up n7
  have R7 := range_upn R56 n7
  clear O6 O16 O56 R6 R56 R16 n7 t6 m6 Q6
  go_wp2_with (refine wpList_load_mid rfl 24 (.tmp 2) rfl k2 0 rfl _ d3 R7 hd3 hrow3 iSt ?_)
  refine (heldState_nil w7 0 g2 a2 b2 c2 d2 ws.length 1 O7.rd wl (by decide) (by decide)).mono ?_
  rintro r w8 ⟨rfl, n8⟩
  go_wp2
  go_ret
  exact ⟨rfl, nxt N7 n8⟩
end Go.Proofs.YtbjcegabjpeejaaDoor
