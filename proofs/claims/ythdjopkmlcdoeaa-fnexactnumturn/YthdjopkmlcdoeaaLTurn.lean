/-
  The law of NumTurn.
-/
import Derived.Test.YthdjopkmlcdoeaaTrim
import Derived.Test.YthdjopkmlcdoeaaSpecA
namespace Go.Proofs.Ythdjopkmlcdoeaa
open Go.RowKit

set_option maxHeartbeats 1000000 in
theorem l1Little_any (w : World) (g : Nat) (a : Option Addr) (cap : Nat) (xs : List Int) (n : Nat) (hr : Rd w g a .u8 xs) (hb : Byt xs) (hn : xs.length ≤ 1048576) (hm : n ≤ 1048576) :
    Calls Try.prog 53 #[.slice a xs.length cap, .int .i64 n] w fun e w' => e = .returned (.slice (some ⟨w.heap.size, 0, none⟩) n n) ∧ Blk w' w.heap.size .u8 (fill (dig xs) n) ∧ Below w.heap.size w w' := by
  obtain ⟨i0, hi, hz0, hz1, hz2⟩ := info_parts Try.info5
  go_enter Try.func53, Try.ntmps53
  go_wp2_with (at_make; refine wpList_make_full _ rfl _ _ 22 rfl w.heap.size 5 i0 (.int .u8 0) 1 Try.underlying22 hi hz0 hz1 .i64 .i64 _ _ n rfl rfl rfl rfl (by rw [hz2]; omega) (by unfold maxLen; omega) (Nat.le_refl _) ?_; intro w1 hown hgrow)
  have hB0 := Blk.of_made hown
  have hN0 : Below w.heap.size w w1 := (Below.refl _ _).grown hgrow (Nat.le_refl _) (by simp)
  clear hown hgrow
  go_loopw [6] (fun i wr => ∃ (k : Nat) (ys : List Int), k ≤ n ∧ i = .int .i64 k ∧ FillTo (dig xs) ys n k ∧ Blk wr w.heap.size .u8 ys ∧ Below w.heap.size w wr) (fun i _ => n - (intOf i).toNat)
  case atStart => exact ⟨0, _, Nat.zero_le _, rfl, ⟨by simp, fun j h => absurd h (by omega)⟩, hB0, hN0⟩
  case round =>
    obtain ⟨k, ys, hk, rfl, hcp, hB, hN⟩ := hrel
    by_cases hlt : k < n
    · have R := hcp.step hlt
      have hcy : wr.cell? ⟨w.heap.size, k, none⟩ = some (.int .u8 (ys.getD k 0)) := hB.cell (by rw [hcp.1]; exact hlt)
      have hfy := hB.free k
      have hB' := hB.store k (dig xs k)
      have hN' : Below w.heap.size w (wr.setCell ⟨w.heap.size, k, none⟩ (.int .u8 (dig xs k))) := hN.setCell (Nat.le_refl _) _
      have hr' := hr.up hN
      have hd := dig_byt hb k
      have hd' : dig xs k % 256 = dig xs k := by omega
      clear hB hN hcp
      go_wp2_with fail
      refine (l1Digit_any wr g a cap xs _ hr' hb hn (by omega) (by omega)).mono ?_
      rintro e w' ⟨rfl, rfl⟩
      rw [Int.toNat_natCast]
      generalize dig xs k = x at *
      go_wp2
      go_roundw
      case rel => exact ⟨k + 1, _, by omega, by go_num, R, hB', hN'⟩
      case measure => simp [intOf]; omega
    · obtain rfl : k = n := by omega
      go_wp2
      go_ret
      refine ⟨rfl, ?_, hN⟩
      rw [← hcp.all]
      exact hB

/-- What both answer. -/
def TurnOf (xs : List Int) (n : Int) (zs : List Int) : Prop :=
  ((xs.length ≤ 128 ∧ 1 ≤ n ∧ n ≤ 128) ∧ ∃ c, Canon c (bval xs) ∧ (((c.length : Int) ≤ n ∧ zs = fill (dig xs) n.toNat) ∨ (n < (c.length : Int) ∧ zs = []))) ∨ (¬ (xs.length ≤ 128 ∧ 1 ≤ n ∧ n ≤ 128) ∧ zs = [])
theorem TurnOf.uniq {xs : List Int} {n : Int} {a b : List Int} (ha : TurnOf xs n a) (hb : TurnOf xs n b) : a = b := by
  rcases ha with ⟨h1, c, hc, h2⟩ | ⟨h1, rfl⟩
  · rcases hb with ⟨h3, d, hd, h4⟩ | ⟨h3, rfl⟩
    · obtain rfl := hc.uniq hd
      rcases h2 with ⟨h5, rfl⟩ | ⟨h5, rfl⟩
      · rcases h4 with ⟨h6, rfl⟩ | ⟨h6, rfl⟩
        · rfl
        · omega
      · rcases h4 with ⟨h6, rfl⟩ | ⟨h6, rfl⟩
        · omega
        · rfl
    · exact absurd h1 h3
  · rcases hb with ⟨h3, d, hd, h4⟩ | ⟨h3, rfl⟩
    · exact absurd h3 h1
    · rfl
theorem TurnOf.len {xs : List Int} {n : Int} {a : List Int} (ha : TurnOf xs n a) : a.length ≤ 128 := by
  rcases ha with ⟨h1, c, hc, ⟨_, rfl⟩ | ⟨_, rfl⟩⟩ | ⟨_, rfl⟩
  · rw [fill_len]; omega
  · simp
  · simp

/-- An empty row in a new block. -/
theorem newRow_lit (w : World) (k : IntKind) : NewRow w.heap.size (w.alloc (.cells #[] 5)) (.returned (.slice (some ⟨w.heap.size, 0, none⟩) 0 0)) k [] :=
  ⟨_, 0, w.heap.size, rfl, Own.nil _ _ _ _, by simp, Nat.zero_le _, Nat.le_refl _⟩
theorem newRow_nil (w : World) (k : IntKind) : NewRow w.heap.size w (.returned (.slice none 0 0)) k [] :=
  ⟨_, 0, w.heap.size, rfl, Own.nil _ _ _ _, by simp, Nat.zero_le _, Nat.le_refl _⟩

theorem newRow_nil' {B : Nat} {w : World} {k : IntKind} (h : B ≤ w.heap.size) : NewRow B w (.returned (.slice none 0 0)) k [] :=
  ⟨_, 0, w.heap.size, rfl, Own.nil _ _ _ _, by simp, Nat.zero_le _, h⟩

set_option maxHeartbeats 2000000 in
theorem specNumTurn_any (w : World) (g : Nat) (a : Option Addr) (cap : Nat) (xs : List Int) (n : Int) (hr : Rd w g a .u8 xs) (hb : Byt xs) (hc : a = none → cap = 0) (hcap : xs.length ≤ cap) (hn : xs.length ≤ 1048576) :
    Calls Try.prog 22 #[.slice a xs.length cap, .int .i64 n] w fun e w' => ∃ ys, TurnOf xs n ys ∧ NewRow w.heap.size w' e .u8 ys ∧ Below w.heap.size w w' := by
  have hal : Below w.heap.size w (w.alloc (.cells #[] 5)) := (Below.refl _ _).alloc (Nat.le_refl _) _
  by_cases h1 : xs.length ≤ 128
  · have t1 : decide ((xs.length : Int) ≤ 128) = true := by simp; omega
    by_cases h2 : 1 ≤ n
    · have t2 : decide (n < 1) = false := by simp; omega
      by_cases h3 : n ≤ 128
      · have t3 : decide (128 < n) = false := by simp; omega
        go_enter Try.func22, Try.ntmps22
        go_wp2_with (go_at_call 46; go_in)
        refine (l1Trim_any w g a cap xs hr hb hc hcap hn).mono ?_
        rintro e w1 ⟨ys, C, hl, ⟨a1, c1, g1, rfl, o1, q1, q2, q3⟩, n1⟩
        by_cases h4 : (ys.length : Int) ≤ n
        · have t4 : decide (n < (ys.length : Int)) = false := by simp; omega
          obtain ⟨m, hm⟩ := Int.eq_ofNat_of_zero_le (show 0 ≤ n by omega)
          subst hm
          clear o1
          go_wp2_with fail
          refine (l1Little_any w1 g a cap xs m (hr.up n1) hb hn (by omega)).mono ?_
          rintro e w2 ⟨rfl, B2, n2⟩
          go_wp2
          go_ret
          exact ⟨_, .inl ⟨⟨h1, h2, h3⟩, ys, C, .inl ⟨h4, rfl⟩⟩, ⟨_, _, _, ret_slice (by rw [fill_len, Int.toNat_natCast]), B2.own0, by simp, by rw [fill_len, Int.toNat_natCast]; exact Nat.le_refl _, n1.size⟩, nxt n1 n2⟩
        · have t4 : decide (n < (ys.length : Int)) = true := by simp; omega
          have hal1 : Below w1.heap.size w1 (w1.alloc (.cells #[] 5)) := (Below.refl _ _).alloc (Nat.le_refl _) _
          clear o1
          go_wp2
          go_ret
          exact ⟨[], .inl ⟨⟨h1, h2, h3⟩, ys, C, .inr ⟨by omega, rfl⟩⟩, ⟨_, 0, w1.heap.size, rfl, Own.nil _ _ _ _, by simp, Nat.zero_le _, n1.size⟩, nxt n1 hal1⟩
      · have t3 : decide (128 < n) = true := by simp; omega
        go_enter Try.func22, Try.ntmps22
        go_wp2
        go_ret
        exact ⟨[], .inr ⟨by omega, rfl⟩, newRow_lit w _, hal⟩
    · have t2 : decide (n < 1) = true := by simp; omega
      go_enter Try.func22, Try.ntmps22
      go_wp2
      go_ret
      exact ⟨[], .inr ⟨by omega, rfl⟩, newRow_lit w _, hal⟩
  · have t1 : decide ((xs.length : Int) ≤ 128) = false := by simp; omega
    go_enter Try.func22, Try.ntmps22
    go_wp2
    go_ret
    exact ⟨[], .inr ⟨by omega, rfl⟩, newRow_lit w _, hal⟩

set_option maxHeartbeats 2000000 in
theorem implNumTurn_any (w : World) (g : Nat) (a : Option Addr) (cap : Nat) (xs : List Int) (n : Int) (hr : Rd w g a .u8 xs) (hb : Byt xs) (hcap : xs.length ≤ cap) (hn : xs.length ≤ 1048576) :
    Calls Try.prog 23 #[.slice a xs.length cap, .int .i64 n] w fun e w' => ∃ ys, TurnOf xs n ys ∧ NewRow w.heap.size w' e .u8 ys ∧ Below w.heap.size w w' := by
  obtain ⟨i0, hi, hz0, hz1, hz2⟩ := info_parts Try.info5
  by_cases h1 : xs.length ≤ 128
  · have t1 : decide ((xs.length : Int) ≤ 128) = true := by simp; omega
    by_cases h2 : 1 ≤ n
    · have t2 : decide (n < 1) = false := by simp; omega
      by_cases h3 : n ≤ 128
      · have t3 : decide (128 < n) = false := by simp; omega
        go_enter Try.func23, Try.ntmps23
        go_wp2_with (go_at_call 48; go_in)
        refine (withoutZeros_any w g a cap xs hr hb hcap hn).mono ?_
        rintro e w1 ⟨ys, C, hl, rfl, B1, n1⟩
        have hl1 := B1.lt
        by_cases h4 : (ys.length : Int) ≤ n
        · have t4 : decide (n < (ys.length : Int)) = false := by simp; omega
          obtain ⟨m, hm⟩ := Int.eq_ofNat_of_zero_le (show 0 ≤ n by omega)
          subst hm
          go_wp2_with (at_make; refine wpList_make_full _ rfl _ _ 22 rfl w1.heap.size 5 i0 (.int .u8 0) 1 Try.underlying22 hi hz0 hz1 .i64 .i64 _ _ m rfl rfl rfl rfl (by rw [hz2]; omega) (by unfold maxLen; omega) (Nat.le_refl _) ?_; intro w2 hown hgrow)
          have hB0 := Blk.of_made hown
          have hN0 : Below w1.heap.size w1 w2 := (Below.refl _ _).grown hgrow (Nat.le_refl _) (by simp)
          clear hown hgrow
          go_loopw [29] (fun i wr => ∃ (k : Nat) (zs : List Int), k ≤ ys.length ∧ i = .int .i64 k ∧ (FillTo (dig ys) zs m k ∧ ∀ j, k ≤ j → zs.getD j 0 = 0) ∧ Blk wr w1.heap.size .u8 zs ∧ Below w1.heap.size w1 wr) (fun i _ => ys.length - (intOf i).toNat)
          case atStart => exact ⟨0, _, Nat.zero_le _, rfl, ⟨⟨by simp, fun j h => absurd h (by omega)⟩, fun j _ => by by_cases hj : j < m <;> simp [hj]⟩, hB0, hN0⟩
          case round =>
            obtain ⟨k, zs, hk, rfl, hcp, hB, hN⟩ := hrel
            by_cases hlt : k < ys.length
            · have R : FillTo (dig ys) (zs.set k (dig ys k)) m (k + 1) ∧ ∀ j, k + 1 ≤ j → (zs.set k (dig ys k)).getD j 0 = 0 :=
                ⟨hcp.1.step (by omega), fun j hj => by rw [getD_set_ne _ _ _ _ (by omega)]; exact hcp.2 j (by omega)⟩
              have hcy : wr.cell? ⟨w1.heap.size, k, none⟩ = some (.int .u8 (zs.getD k 0)) := hB.cell (by rw [hcp.1.1]; omega)
              have hfy := hB.free k
              have hcx : wr.cell? ⟨w.heap.size, ys.length - 1 - k, none⟩ = some (.int .u8 (dig ys k)) := by
                rw [hN.cell (p := ⟨w.heap.size, ys.length - 1 - k, none⟩) hl1, B1.cell (by omega)]
                unfold dig
                rw [if_pos hlt]
              have hB' := hB.store k (dig ys k)
              have hN' : Below w1.heap.size w1 (wr.setCell ⟨w1.heap.size, k, none⟩ (.int .u8 (dig ys k))) := hN.setCell (Nat.le_refl _) _
              obtain ⟨p, hp⟩ : ∃ p : Nat, ys.length - 1 - k = p := ⟨_, rfl⟩
              rw [hp] at hcx
              have p1 : (ys.length : Int) - 1 - (k : Int) = (p : Int) := by omega
              have p2 : (p : Int) < (ys.length : Int) := by omega
              have q2 : (k : Int) < (m : Int) := by omega
              have R' := hide R
              generalize dig ys k = x at *
              clear hB hN hcp hp R
              go_wp2
              go_roundw
              case rel => exact ⟨k + 1, _, by omega, by go_num, R'.out, hB', hN'⟩
              case measure => simp [intOf]; omega
            · obtain rfl : k = ys.length := by omega
              have e1 : zs = fill (dig xs) m := by
                refine eq_of_getD (by rw [hcp.1.1, fill_len]) (fun j hj => ?_)
                rw [hcp.1.1] at hj
                rw [fill_get _ _ _ hj, dig_same hb C.1 C.2.1.symm j]
                by_cases hjl : j < ys.length
                · exact hcp.1.2 j hjl
                · rw [hcp.2 j (by omega)]
                  unfold dig
                  rw [if_neg hjl]
              have e2 := hide e1
              clear e1 hcp
              go_wp2
              go_ret
              rw [e2.out] at hB
              exact ⟨_, .inl ⟨⟨h1, h2, h3⟩, ys, C, .inl ⟨h4, rfl⟩⟩, ⟨_, _, _, ret_slice (by rw [fill_len, Int.toNat_natCast]), hB.own0, by simp, by rw [fill_len, Int.toNat_natCast]; exact Nat.le_refl _, n1.size⟩, nxt n1 hN⟩
        · have t4 : decide (n < (ys.length : Int)) = true := by simp; omega
          go_wp2
          go_ret
          exact ⟨[], .inl ⟨⟨h1, h2, h3⟩, ys, C, .inr ⟨by omega, rfl⟩⟩, newRow_nil' n1.size, n1⟩
      · have t3 : decide (128 < n) = true := by simp; omega
        go_enter Try.func23, Try.ntmps23
        go_wp2
        go_ret
        exact ⟨[], .inr ⟨by omega, rfl⟩, newRow_nil w _, Below.refl _ _⟩
    · have t2 : decide (n < 1) = true := by simp; omega
      go_enter Try.func23, Try.ntmps23
      go_wp2
      go_ret
      exact ⟨[], .inr ⟨by omega, rfl⟩, newRow_nil w _, Below.refl _ _⟩
  · have t1 : decide ((xs.length : Int) ≤ 128) = false := by simp; omega
    go_enter Try.func23, Try.ntmps23
    go_wp2
    go_ret
    exact ⟨[], .inr ⟨by omega, rfl⟩, newRow_nil w _, Below.refl _ _⟩

set_option maxHeartbeats 2000000 in
theorem numTurn_law (w : World) (g : Nat) (a : Option Addr) (ca : Nat) (xs : List Int) (ha : Rd w g a .u8 xs) (hx : Byt xs) (n : Int) (_ : (Lit.int .i64 n).wf = true) :
    Calls Try.prog 5 #[.slice a xs.length ca, .int .i64 n] w fun e w' => e = .returned (.bool true) ∧ Below w.heap.size w w' := by
  by_cases h1 : xs.length ≤ 1048576
  · have t1 : decide ((1048576 : Int) < (xs.length : Int)) = false := by simp; omega
    go_enter Try.func5, Try.ntmps5
    go_wp2_with fail
    refine (toByteS_any w g a ca xs ha h1).mono ?_
    rintro e w1 ⟨rfl, B1, n1⟩
    go_wp2_with fail
    refine (specNumTurn_any w1 _ _ _ xs n B1.own0.rd hx (by simp) (Nat.le_refl _) h1).mono ?_
    rintro e w2 ⟨ys, Y, ⟨a2, c2, g2, rfl, o2, p2, q2, r2⟩, n2⟩
    have N2 := nxt n1 n2
    have l2 := o2.rd.lt
    have hy : ys.length ≤ 1048576 := by have := Y.len; omega
    go_wp2_with fail
    refine (toByteS_any w2 g a ca xs (ha.up N2) h1).mono ?_
    rintro e w3 ⟨rfl, B3, n3⟩
    have N3 := nxt N2 n3
    have l3 := B3.lt
    go_wp2_with fail
    refine (implNumTurn_any w3 _ _ _ xs n B3.own0.rd hx (Nat.le_refl _) h1).mono ?_
    rintro e w4 ⟨ys', Y', ⟨a4, c4, g4, rfl, o4, p4, q4, r4⟩, n4⟩
    obtain rfl : ys' = ys := Y'.uniq Y
    have N4 := nxt N3 n4
    have o2' := (o2.up n3).up n4
    go_wp2_with fail
    refine (eqByteS_same w4 _ _ _ _ _ _ ys' o4.rd o2'.rd hy).mono ?_
    rintro e w5 ⟨rfl, n5⟩
    have N5 := nxt N4 n5
    have o2'' := o2'.up n5
    have o4' := o4.up n5
    have B5 := (B3.up n4).up n5
    go_wp2_with fail
    refine (toByteS_any w5 g a ca xs (ha.up N5) h1).mono ?_
    rintro e w6 ⟨rfl, B6, n6⟩
    go_wp2_with fail
    refine (eqByteS_same w6 _ _ _ _ _ _ xs (B5.up n6).own0.rd B6.own0.rd h1).mono ?_
    rintro e w7 ⟨rfl, n7⟩
    have N7 := nxt (nxt N5 n6) n7
    have o2a := (o2''.up n6).up n7
    have o4a := (o4'.up n6).up n7
    have B7 := (B5.up n6).up n7
    clear B1 B3 B5 B6 o2 o2' o2'' o4 o4' n1 n2 N3 N4 N5 n3 n4 n5 n6 n7
    go_wp2_with fail
    refine (markByteS_any w7 _ _ _ xs 1 B7.own0 h1 (by decide) (by decide)).mono ?_
    rintro e w8 ⟨rfl, _, O8⟩
    have N8 := N7.trans (O8.below (B := w.heap.size) N2.size)
    have o2b := o2a.only O8 (fun h => by have := l2 h; omega)
    have o4b := o4a.only O8 (fun h => by omega)
    have t2 : decide ((1 : Int) + (xs.length : Int) < 0) = false := by simp; omega
    clear B7 o2a o4a N7 O8
    go_wp2_with fail
    refine (eqByteS_same w8 _ _ _ _ _ _ ys' o4b.rd o2b.rd hy).mono ?_
    rintro e w9 ⟨rfl, n9⟩
    have N9 := nxt N8 n9
    have o2c := o2b.up n9
    have o4c := o4b.up n9
    clear o2b o4b N8 n9
    go_wp2_with fail
    refine (markByteS_any w9 _ _ _ ys' 1 o4c hy (by decide) (by decide)).mono ?_
    rintro e wA ⟨rfl, oA, OA⟩
    have NA := N9.trans (OA.below (B := w.heap.size) (by have := N2.size; omega))
    have o2d := o2c.only OA (fun h => by have := l2 h; omega)
    have t3 : decide ((1 : Int) + (ys'.length : Int) < 0) = false := by simp; omega
    clear o2c o4c N9 OA
    go_wp2_with fail
    refine (heldByteS_any wA _ _ _ ys'.length 1 oA.rd hy (by decide) (by decide)).mono ?_
    rintro e wA' ⟨rfl, rfl⟩
    go_wp2_with fail
    refine (toByteS_any wA' g a ca xs (ha.up NA) h1).mono ?_
    rintro e wB ⟨rfl, BB, nB⟩
    go_wp2_with fail
    refine (implNumTurn_any wB _ _ _ xs n BB.own0.rd hx (Nat.le_refl _) h1).mono ?_
    rintro e wC ⟨yC, YC, ⟨aC, cC, gC, rfl, oC, pC, qC, rC⟩, nC⟩
    obtain rfl : yC = ys' := YC.uniq Y
    have o2e := (o2d.up nB).up nC
    have oAe := (oA.up nB).up nC
    go_wp2_with fail
    refine (eqByteS_same wC _ _ _ _ _ _ yC oC.rd o2e.rd hy).mono ?_
    rintro e wD ⟨rfl, nD⟩
    go_wp2_with fail
    refine (heldByteS_any wD _ _ _ yC.length 1 (oAe.up nD).rd hy (by decide) (by decide)).mono ?_
    rintro e wD' ⟨rfl, rfl⟩
    go_wp2
    go_ret
    exact ⟨rfl, nxt (nxt (nxt NA nB) nC) nD⟩
  · have t1 : decide ((1048576 : Int) < (xs.length : Int)) = true := by simp; omega
    go_enter Try.func5, Try.ntmps5
    go_wp2
    go_ret
    exact ⟨rfl, Below.refl _ _⟩
end Go.Proofs.Ythdjopkmlcdoeaa
