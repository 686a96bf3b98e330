import Derived.Test.YtdbgdiahddpgkaaGreatGE14

/-
  Messages: the body of Certs.
-/
namespace Go.Proofs.YtdbgdiahddpgkaaGreat
open Go Go.RowKit

theorem rowBl : ∃ d, Tryz.prog.underlying 54 = some d ∧ d.isRow = true := ⟨_, Tryz.underlying54, rfl⟩
theorem iBl : (Tryz.prog.info? 54).map (·.size) = some 1 := by kernel_rfl
/-- Lists in a row that may be read. -/
structure CtsR (w : World) (g : Nat) (a : Option Addr) (bs : List (List Int)) (ps : List Plb) : Prop where
  r : RdL w g a bs ps
  n : bs.length ≤ 4
  z : ∀ i, i < bs.length → (bs.getD i []).length ≤ 1048576
  y : ∀ i, i < bs.length → (ps.getD i plb0).a = none → (ps.getD i plb0).c = 0
  q : ∀ i, i < bs.length → (bs.getD i []).length = 0 ∨ (ps.getD i plb0).q < w.heap.size
theorem CtsR.up {w w' : World} {g : Nat} {a : Option Addr} {bs : List (List Int)} {ps : List Plb} (h : CtsR w g a bs ps) (n : Below w.heap.size w w') : CtsR w' g a bs ps := ⟨h.r.up n, h.n, h.z, h.y, fun i hi => (h.q i hi).imp id fun x => Nat.lt_of_lt_of_le x n.size⟩
theorem lo_take (bs : List (List Int)) (k : Nat) (h : k < bs.length) : ((bs.map loL).take (k + 1)).flatten = ((bs.map loL).take k).flatten ++ loL (bs.getD k []) := by
  rw [List.take_add_one]
  simp [h]
theorem lo_sum (bs : List (List Int)) (B : Nat) (hz : ∀ i, i < bs.length → (bs.getD i []).length ≤ B) (k : Nat) : ((bs.map loL).take k).flatten.length ≤ k * (B + 2) := by
  induction k with
  | zero => simp
  | succ k ih =>
    by_cases h : k < bs.length
    · rw [lo_take bs k h, List.length_append, loL_len, Nat.succ_mul]
      have := hz k h
      omega
    · rw [List.take_of_length_le (by simp; omega)]
      rw [List.take_of_length_le (by simp; omega)] at ih
      rw [Nat.succ_mul]
      omega
set_option maxHeartbeats 2000000 in
theorem certsBody_any (w : World) (q g : Nat) (a : Option Addr) (c : Nat) (bs : List (List Int)) (ps : List Plb) (h0 : w.cell? ⟨q, 0, none⟩ = some (.slice a bs.length c)) (H : CtsR w g a bs ps) :
    Calls Tryz.prog 114 #[.pointer (some ⟨q, 0, none⟩)] w (BodP w (clL bs)) := by
  obtain ⟨i0, hi, hz0, hz1, hz2⟩ := info_parts Tryz.info5
  obtain ⟨dB, hdB, hrowB⟩ := rowBl
  have SUM := hide (lo_sum bs 1048576 H.z)
  have hn := H.n
  have n1 : Below w.heap.size w (w.alloc (.cells #[.int .u8 (bs.length : Int)] 5)) := (Below.refl _ _).alloc (Nat.le_refl _) _
  have R1 := RowB.lit1 w (bs.length : Int)
  have k0 := cellq n1 h0
  go_enter Tryz.func114, Tryz.ntmps114
  go_wp2
  generalize w.alloc (.cells #[.int .u8 (bs.length : Int)] 5) = wa at *
  go_loopw [3, 5, 18] (fun x _ i wr => ∃ k : Nat, k ≤ bs.length ∧ i = .int .i64 k ∧ RowB wr w.heap.size x ([(bs.length : Int)] ++ ((bs.map loL).take k).flatten) ∧ Below w.heap.size w wr) (fun _ _ i _ => bs.length - (intOf i).toNat)
  case atStart => exact ⟨0, Nat.zero_le _, rfl, by simpa using R1, n1⟩
  case round =>
    obtain ⟨k, hk, rfl, R, hN⟩ := hrel
    clear R1 n1 k0
    by_cases hlt : k < bs.length
    · have HW := H.up hN
      obtain ⟨off, ea, hc⟩ := HW.r.r (by omega)
      subst ea
      have t0 : (k : Int) < (bs.length : Int) := by omega
      have c1 := hc k hlt
      have rb := HW.r.b k hlt
      have ST := hide (lo_take bs k hlt)
      have zk := H.z k hlt
      have yk := H.y k hlt
      have qk := H.q k hlt
      have SK : ([(bs.length : Int)] ++ ((bs.map loL).take k).flatten).length ≤ 1073741824 := by
        have := SUM.out k
        have : k * (1048576 + 2) ≤ 4 * (1048576 + 2) := Nat.mul_le_mul_right _ (by omega)
        simp only [List.length_append, List.length_cons, List.length_nil]
        omega
      have RG : wr.rangeAt g (off + k) [.slice (ps.getD k plb0).a (bs.getD k []).length (ps.getD k plb0).c] := fun j v hj => by
        match j, hj with
        | 0, hj => simp at hj; subst hj; exact c1
      clear hc HW SUM
      generalize bs.getD k [] = y at *
      generalize ps.getD k plb0 = p at *
      have nA : Below wr.heap.size wr (wr.alloc (.cells #[.slice p.a y.length p.c] 54)) := (Below.refl _ _).alloc (Nat.le_refl _) _
      have NA : Below w.heap.size w (wr.alloc (.cells #[.slice p.a y.length p.c] 54)) := hN.trans (nA.mono hN.size)
      have CL := hide (appendLong_any _ w.heap.size _ _ (R.up nA) NA.size p.q p.a p.c y (rb.up nA) yk qk SK zk)
      go_wp2_with fail
      refine CL.out.mono ?_
      rintro r w4 ⟨v4, rfl, R4, n4⟩
      rw [List.append_assoc, ← ST.out] at R4
      have N4 := NA.trans n4
      clear CL n4 hN ST c1 nA NA RG rb R H
      go_wp2
      go_roundw
      case rel => exact ⟨k + 1, by omega, by go_num, R4, N4⟩
      case measure => simp [intOf]; omega
    · obtain rfl : k = bs.length := by omega
      rw [List.take_of_length_le (by simp)] at R
      clear H SUM
      go_wp2
      go_ret
      exact ⟨⟨_, rfl, R⟩, hN⟩
end Go.Proofs.YtdbgdiahddpgkaaGreat

/-
  Messages: the model's body of Certs.
-/
namespace Go.Proofs.YtdbgdiahddpgkaaGreat
open Go Go.RowKit

theorem cellB {w w' : World} {b : Nat} (n : Below b w w') {q i : Nat} {x : Value} (h : w.cell? ⟨q, i, none⟩ = some x) (hq : q < b) : w'.cell? ⟨q, i, none⟩ = some x :=
  (World.cell?_of_block (a := ⟨q, i, none⟩) (n.block q hq)).trans h
theorem LstR.of_row' {w : World} {b : Nat} {v : Value} {xs : List Int} (R : RowB w b v xs) : ∃ l : Lst, v = .slice l.a l.xs.length l.c ∧ l.xs = xs ∧ (Rd w l.g l.a .u8 l.xs ∧ (l.a = none → l.c = 0)) := by
  obtain ⟨a, c, g, e, r, z, _, _⟩ := R.rd
  exact ⟨⟨g, a, c, xs⟩, e, rfl, r, z⟩
set_option maxRecDepth 100000 in
set_option maxHeartbeats 2000000 in
theorem sbCerts_any (w : World) (x1 x2 x3 x4 x5 x6 x7 x8 x9 x10 x12 : Value) (g : Nat) (a : Option Addr) (c : Nat) (bs : List (List Int)) (ps : List Plb) (H : CtsR w g a bs ps) :
    Calls Tryz.prog 33 #[.agg #[.int .i64 11, x1, x2, x3, x4, x5, x6, x7, x8, x9, x10, .slice a bs.length c, x12]] w (BodP w (clL bs)) := by
  obtain ⟨i0, hi, hz0, hz1, hz2⟩ := info_parts Tryz.info5
  obtain ⟨N, RC, R⟩ := boxed w [.int .i64 11, x1, x2, x3, x4, x5, x6, x7, x8, x9, x10, .slice a bs.length c, x12] 31
  have hn := H.n
  have SUM := hide (lo_sum bs 1048576 H.z)
  have c0 := RC.cell 0
  have c11 := RC.cell 11
  have z1 : (w.alloc (.cells #[.int .i64 11, x1, x2, x3, x4, x5, x6, x7, x8, x9, x10, .slice a bs.length c, x12] 31)).heap.size = w.heap.size + 1 := by simp
  have z2 : w.heap.size + 1 ≤ ((w.alloc (.cells #[.int .i64 11, x1, x2, x3, x4, x5, x6, x7, x8, x9, x10, .slice a bs.length c, x12] 31)).alloc (.cells #[] 5)).heap.size := by simp
  have R' : RowB ((w.alloc (.cells #[.int .i64 11, x1, x2, x3, x4, x5, x6, x7, x8, x9, x10, .slice a bs.length c, x12] 31)).alloc (.cells #[] 5)) (w.heap.size + 1) (.slice (some ⟨w.heap.size + 1, 0, none⟩) 0 0) [] := R
  have N' : Below w.heap.size w ((w.alloc (.cells #[.int .i64 11, x1, x2, x3, x4, x5, x6, x7, x8, x9, x10, .slice a bs.length c, x12] 31)).alloc (.cells #[] 5)) := N
  have c0' : ((w.alloc (.cells #[.int .i64 11, x1, x2, x3, x4, x5, x6, x7, x8, x9, x10, .slice a bs.length c, x12] 31)).alloc (.cells #[] 5)).cell? ⟨w.heap.size, 0, none⟩ = some (.int .i64 11) := c0
  have c11' : ((w.alloc (.cells #[.int .i64 11, x1, x2, x3, x4, x5, x6, x7, x8, x9, x10, .slice a bs.length c, x12] 31)).alloc (.cells #[] 5)).cell? ⟨w.heap.size, 11, none⟩ = some (.slice a bs.length c) := c11
  clear RC R N c0 c11
  go_enter Tryz.func33, Tryz.ntmps33
  go_upto_region 25 with fail
  generalize (w.alloc (.cells #[.int .i64 11, x1, x2, x3, x4, x5, x6, x7, x8, x9, x10, .slice a bs.length c, x12] 31)).alloc (.cells #[] 5) = W at *
  have nL : Below W.heap.size W (W.alloc (.cells #[.int .u8 (bs.length : Int)] 5)) := (Below.refl _ _).alloc (Nat.le_refl _) _
  obtain ⟨v1, w1, hap, R1, n1⟩ := append_any (P := Tryz.prog) (W.alloc (.cells #[.int .u8 (bs.length : Int)] 5)) 22 i0 Tryz.underlying22 hi hz0 hz1 hz2 (w.heap.size + 1) (w.heap.size + 1) _ _ (R'.up nL) _ _ 1 [(bs.length : Int)] (blk_lit1 W .u8 5 (bs.length : Int)).own0.rd (by simp) (by simp) (by omega) (Nat.le_trans z2 nL.size)
  have N1 : Below (w.heap.size + 1) W w1 := (nL.mono z2).trans n1
  rw [List.nil_append] at R1
  clear R' n1 nL
  go_wp2_with (at_builtin; refine Lib.wpList_append_run _ rfl _ _ 22 22 rfl _ _ rfl rfl _ _ hap ?_)
  clear hap
  go_loopw [3, 4] (fun x i wr => ∃ k : Nat, k ≤ bs.length ∧ i = .int .i64 k ∧ RowB wr (w.heap.size + 1) x ([(bs.length : Int)] ++ ((bs.map loL).take k).flatten) ∧ Below (w.heap.size + 1) W wr) (fun _ i _ => bs.length - (intOf i).toNat)
  case atStart => exact ⟨0, Nat.zero_le _, rfl, by simpa using R1, N1⟩
  case round =>
    obtain ⟨k, hk, rfl, R, hN⟩ := hrel
    clear R1 N1
    have k11 := cellB hN c11' (by omega)
    have NW : Below w.heap.size w wr := N'.trans (hN.mono (by omega))
    by_cases hlt : k < bs.length
    · have HW := H.up NW
      obtain ⟨off, ea, hc⟩ := HW.r.r (by omega)
      have t0 : (k : Int) < (bs.length : Int) := by omega
      have c1 := hc k hlt
      have LX : LstR wr ⟨(ps.getD k plb0).q, (ps.getD k plb0).a, (ps.getD k plb0).c, bs.getD k []⟩ := ⟨HW.r.b k hlt, HW.y k hlt, HW.z k hlt, HW.q k hlt⟩
      have ST := hide (lo_take bs k hlt)
      have SK : ([(bs.length : Int)] ++ ((bs.map loL).take k).flatten).length ≤ 1073741824 := by
        have := SUM.out k
        have : k * (1048576 + 2) ≤ 4 * (1048576 + 2) := Nat.mul_le_mul_right _ (by omega)
        simp only [List.length_append, List.length_cons, List.length_nil]
        omega
      clear hc HW SUM H
      subst ea
      generalize bs.getD k [] = y at *
      generalize ps.getD k plb0 = p at *
      have zy : y.length ≤ 1048576 := LX.m
      have CL := hide (l13Long_any wr _ LX)
      clear LX
      go_wp2_with fail
      refine CL.out.mono ?_
      rintro r w3 ⟨⟨v3, rfl, R3⟩, n3⟩
      have lz := loL_len y
      obtain ⟨l3, e3, x3, L3⟩ := LstR.of_row' R3
      subst e3
      have RR := R.up n3
      have M3 : Below (w.heap.size + 1) W w3 := hN.trans (n3.mono (Nat.le_trans z2 hN.size))
      obtain ⟨v4, w4, hap, R4, n4⟩ := append_any (P := Tryz.prog) w3 22 i0 Tryz.underlying22 hi hz0 hz1 hz2 (w.heap.size + 1) (w.heap.size + 1) _ _ RR l3.g l3.a l3.c l3.xs L3.1 L3.2 (by rw [x3]; show _ + (loL y).length ≤ _; omega) (Nat.le_refl _) (Nat.le_trans z2 M3.size)
      rw [x3] at R4
      have R5 : RowB w4 (w.heap.size + 1) v4 ([(bs.length : Int)] ++ ((bs.map loL).take (k + 1)).flatten) := by rw [ST.out, ← List.append_assoc]; exact R4
      have N4 := M3.trans n4
      clear CL n4 hN ST c1 R RR R3 R4 M3 n3 L3 x3 k11 NW lz SK zy
      go_wp2_with (at_builtin; refine Lib.wpList_append_run _ rfl _ _ 22 22 rfl _ _ rfl rfl _ _ hap ?_)
      clear hap
      go_roundw
      case rel => exact ⟨k + 1, by omega, by go_num, R5, N4⟩
      case measure => simp [intOf]; omega
    · obtain rfl : k = bs.length := by omega
      rw [List.take_of_length_le (by simp)] at R
      clear H SUM
      go_wp2
      go_ret
      exact ⟨⟨_, rfl, R.base (by omega)⟩, NW⟩
end Go.Proofs.YtdbgdiahddpgkaaGreat
