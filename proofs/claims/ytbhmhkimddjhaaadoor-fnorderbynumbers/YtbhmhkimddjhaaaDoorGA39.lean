import Derived.Test.YtbhmhkimddjhaaaDoorGA25
import Derived.Test.YtbhmhkimddjhaaaDoorGA4
import Derived.Test.YtbhmhkimddjhaaaDoorGA21
import Derived.Test.YtbhmhkimddjhaaaDoorGA17
/-
  The law of NumTurn.
-/
namespace Go.Proofs.YtbhmhkimddjhaaaDoor
set_option maxRecDepth 100000
open Go.RowKit

set_option maxHeartbeats 1000000 in
theorem l1Little_any1 (w : World) (g : Nat) (a : Option Addr) (cap : Nat) (xs : List Int) (n : Nat) (hr : Rd w g a .u8 xs) (hb : Byt xs) (hn : xs.length ≤ 1048576) (hm : n ≤ 1048576) :
    Calls Tryd.prog 47 #[.slice a xs.length cap, .int .i64 n] w fun e w' => e = .returned (.slice (some ⟨w.heap.size, 0, none⟩) n n) ∧ Blk w' w.heap.size .u8 (fill (dig xs) n) ∧ Below w.heap.size w w' := by
  obtain ⟨i0, hi, hz0, hz1, hz2⟩ := info_parts Tryd.info5
  go_enter Tryd.func47, Tryd.ntmps47
  go_wp2_with (at_make; refine wpList_make_full _ rfl _ _ 22 rfl w.heap.size 5 i0 (.int .u8 0) 1 Tryd.underlying22 hi hz0 hz1 .i64 .i64 _ _ n rfl rfl rfl rfl (by rw [hz2]; omega) (by unfold maxLen; omega) (Nat.le_refl _) ?_; intro w1 hown hgrow)
  have hB0 := Blk.of_made hown
  have hN0 : Below w.heap.size w w1 := (Below.refl _ _).grown hgrow (Nat.le_refl _) (by simp)
  clear hown hgrow
  go_loopw [6] (fun i wr => ∃ (k : Nat) (ys : List Int), k ≤ n ∧ i = .int .i64 k ∧ FillTo (dig xs) ys n k ∧ Blk wr w.heap.size .u8 ys ∧ Below w.heap.size w wr) (fun i _ => n - (intOf i).toNat)
  case atStart => exact ⟨0, _, Nat.zero_le _, rfl, ⟨by simp, fun j h => absurd h (by omega)⟩, hB0, hN0⟩
  case round =>
    obtain ⟨k, ys, hk, rfl, hcp, hB, hN⟩ := hrel
    by_cases hlt : k < n
    · have R := hcp.step hlt
      have hcy : wr.cell? ⟨w.heap.size, k, none⟩ = some (.int .u8 (ys.getD k 0)) := hB.cell (by rw [hcp.1]; exact hlt)
      have hfy := hB.free k
      have hB' := hB.store k (dig xs k)
      have hN' : Below w.heap.size w (wr.setCell ⟨w.heap.size, k, none⟩ (.int .u8 (dig xs k))) := hN.setCell (Nat.le_refl _) _
      have hr' := hr.up hN
      have hd := dig_byt hb k
      have hd' : dig xs k % 256 = dig xs k := by omega
      clear hB hN hcp
      go_wp2_with fail
      refine (l1Digit_any wr g a cap xs _ hr' hb hn (by omega) (by omega)).mono ?_
      rintro e w' ⟨rfl, rfl⟩
      rw [Int.toNat_natCast]
      generalize dig xs k = x at *
      go_wp2
      go_roundw
      case rel => exact ⟨k + 1, _, by omega, by go_num, R, hB', hN'⟩
      case measure => simp [intOf]; omega
    · obtain rfl : k = n := by omega
      go_wp2
      go_ret
      refine ⟨rfl, ?_, hN⟩
      rw [← hcp.all]
      exact hB

/-- What both answer. -/
def TurnOf (xs : List Int) (n : Int) (zs : List Int) : Prop :=
  ((xs.length ≤ 128 ∧ 1 ≤ n ∧ n ≤ 128) ∧ ∃ c, Canon c (bval xs) ∧ (((c.length : Int) ≤ n ∧ zs = fill (dig xs) n.toNat) ∨ (n < (c.length : Int) ∧ zs = []))) ∨ (¬ (xs.length ≤ 128 ∧ 1 ≤ n ∧ n ≤ 128) ∧ zs = [])
theorem TurnOf.uniq {xs : List Int} {n : Int} {a b : List Int} (ha : TurnOf xs n a) (hb : TurnOf xs n b) : a = b := by
  rcases ha with ⟨h1, c, hc, h2⟩ | ⟨h1, rfl⟩
  · rcases hb with ⟨h3, d, hd, h4⟩ | ⟨h3, rfl⟩
    · obtain rfl := hc.uniq hd
      rcases h2 with ⟨h5, rfl⟩ | ⟨h5, rfl⟩
      · rcases h4 with ⟨h6, rfl⟩ | ⟨h6, rfl⟩
        · rfl
        · omega
      · rcases h4 with ⟨h6, rfl⟩ | ⟨h6, rfl⟩
        · omega
        · rfl
    · exact absurd h1 h3
  · rcases hb with ⟨h3, d, hd, h4⟩ | ⟨h3, rfl⟩
    · exact absurd h3 h1
    · rfl
theorem TurnOf.len {xs : List Int} {n : Int} {a : List Int} (ha : TurnOf xs n a) : a.length ≤ 128 := by
  rcases ha with ⟨h1, c, hc, ⟨_, rfl⟩ | ⟨_, rfl⟩⟩ | ⟨_, rfl⟩
  · rw [fill_len]; omega
  · simp
  · simp

/-- An empty row in a new block. -/
theorem newRow_lit1 (w : World) (k : IntKind) : NewRow w.heap.size (w.alloc (.cells #[] 5)) (.returned (.slice (some ⟨w.heap.size, 0, none⟩) 0 0)) k [] :=
  ⟨_, 0, w.heap.size, rfl, Own.nil _ _ _ _, by simp, Nat.zero_le _, Nat.le_refl _⟩
theorem newRow_nil1 (w : World) (k : IntKind) : NewRow w.heap.size w (.returned (.slice none 0 0)) k [] :=
  ⟨_, 0, w.heap.size, rfl, Own.nil _ _ _ _, by simp, Nat.zero_le _, Nat.le_refl _⟩

theorem newRow_nil1' {B : Nat} {w : World} {k : IntKind} (h : B ≤ w.heap.size) : NewRow B w (.returned (.slice none 0 0)) k [] :=
  ⟨_, 0, w.heap.size, rfl, Own.nil _ _ _ _, by simp, Nat.zero_le _, h⟩

set_option maxHeartbeats 2000000 in
theorem implNumTurn_any (w : World) (g : Nat) (a : Option Addr) (cap : Nat) (xs : List Int) (n : Int) (hr : Rd w g a .u8 xs) (hb : Byt xs) (hcap : xs.length ≤ cap) (hn : xs.length ≤ 1048576) :
    Calls Tryd.prog 31 #[.slice a xs.length cap, .int .i64 n] w fun e w' => ∃ ys, TurnOf xs n ys ∧ NewRow w.heap.size w' e .u8 ys ∧ Below w.heap.size w w' := by
  obtain ⟨i0, hi, hz0, hz1, hz2⟩ := info_parts Tryd.info5
  by_cases h1 : xs.length ≤ 128
  · have t1 : decide ((xs.length : Int) ≤ 128) = true := by simp; omega
    by_cases h2 : 1 ≤ n
    · have t2 : decide (n < 1) = false := by simp; omega
      by_cases h3 : n ≤ 128
      · have t3 : decide (128 < n) = false := by simp; omega
        go_enter Tryd.func31, Tryd.ntmps31
        go_wp2_with (go_at_call 62; go_in)
        refine (withoutZeros_any w g a cap xs hr hb hcap hn).mono ?_
        rintro e w1 ⟨ys, C, hl, rfl, B1, n1⟩
        have hl1 := B1.lt
        by_cases h4 : (ys.length : Int) ≤ n
        · have t4 : decide (n < (ys.length : Int)) = false := by simp; omega
          obtain ⟨m, hm⟩ := Int.eq_ofNat_of_zero_le (show 0 ≤ n by omega)
          subst hm
          go_wp2_with (at_make; refine wpList_make_full _ rfl _ _ 22 rfl w1.heap.size 5 i0 (.int .u8 0) 1 Tryd.underlying22 hi hz0 hz1 .i64 .i64 _ _ m rfl rfl rfl rfl (by rw [hz2]; omega) (by unfold maxLen; omega) (Nat.le_refl _) ?_; intro w2 hown hgrow)
          have hB0 := Blk.of_made hown
          have hN0 : Below w1.heap.size w1 w2 := (Below.refl _ _).grown hgrow (Nat.le_refl _) (by simp)
          clear hown hgrow
          go_loopw [29] (fun i wr => ∃ (k : Nat) (zs : List Int), k ≤ ys.length ∧ i = .int .i64 k ∧ (FillTo (dig ys) zs m k ∧ ∀ j, k ≤ j → zs.getD j 0 = 0) ∧ Blk wr w1.heap.size .u8 zs ∧ Below w1.heap.size w1 wr) (fun i _ => ys.length - (intOf i).toNat)
          case atStart => exact ⟨0, _, Nat.zero_le _, rfl, ⟨⟨by simp, fun j h => absurd h (by omega)⟩, fun j _ => by by_cases hj : j < m <;> simp [hj]⟩, hB0, hN0⟩
          case round =>
            obtain ⟨k, zs, hk, rfl, hcp, hB, hN⟩ := hrel
            by_cases hlt : k < ys.length
            · have R : FillTo (dig ys) (zs.set k (dig ys k)) m (k + 1) ∧ ∀ j, k + 1 ≤ j → (zs.set k (dig ys k)).getD j 0 = 0 :=
                ⟨hcp.1.step (by omega), fun j hj => by rw [getD_set_ne _ _ _ _ (by omega)]; exact hcp.2 j (by omega)⟩
              have hcy : wr.cell? ⟨w1.heap.size, k, none⟩ = some (.int .u8 (zs.getD k 0)) := hB.cell (by rw [hcp.1.1]; omega)
              have hfy := hB.free k
              have hcx : wr.cell? ⟨w.heap.size, ys.length - 1 - k, none⟩ = some (.int .u8 (dig ys k)) := by
                rw [hN.cell (p := ⟨w.heap.size, ys.length - 1 - k, none⟩) hl1, B1.cell (by omega)]
                unfold dig
                rw [if_pos hlt]
              have hB' := hB.store k (dig ys k)
              have hN' : Below w1.heap.size w1 (wr.setCell ⟨w1.heap.size, k, none⟩ (.int .u8 (dig ys k))) := hN.setCell (Nat.le_refl _) _
              obtain ⟨p, hp⟩ : ∃ p : Nat, ys.length - 1 - k = p := ⟨_, rfl⟩
              rw [hp] at hcx
              have p1 : (ys.length : Int) - 1 - (k : Int) = (p : Int) := by omega
              have p2 : (p : Int) < (ys.length : Int) := by omega
              have q2 : (k : Int) < (m : Int) := by omega
              have R' := hide R
              generalize dig ys k = x at *
              clear hB hN hcp hp R
              go_wp2
              go_roundw
              case rel => exact ⟨k + 1, _, by omega, by go_num, R'.out, hB', hN'⟩
              case measure => simp [intOf]; omega
            · obtain rfl : k = ys.length := by omega
              have e1 : zs = fill (dig xs) m := by
                refine eq_of_getD (by rw [hcp.1.1, fill_len]) (fun j hj => ?_)
                rw [hcp.1.1] at hj
                rw [fill_get _ _ _ hj, dig_same hb C.1 C.2.1.symm j]
                by_cases hjl : j < ys.length
                · exact hcp.1.2 j hjl
                · rw [hcp.2 j (by omega)]
                  unfold dig
                  rw [if_neg hjl]
              have e2 := hide e1
              clear e1 hcp
              go_wp2
              go_ret
              rw [e2.out] at hB
              exact ⟨_, .inl ⟨⟨h1, h2, h3⟩, ys, C, .inl ⟨h4, rfl⟩⟩, ⟨_, _, _, ret_slice (by rw [fill_len, Int.toNat_natCast]), hB.own0, by simp, by rw [fill_len, Int.toNat_natCast]; exact Nat.le_refl _, n1.size⟩, nxt n1 hN⟩
        · have t4 : decide (n < (ys.length : Int)) = true := by simp; omega
          go_wp2
          go_ret
          exact ⟨[], .inl ⟨⟨h1, h2, h3⟩, ys, C, .inr ⟨by omega, rfl⟩⟩, newRow_nil1' n1.size, n1⟩
      · have t3 : decide (128 < n) = true := by simp; omega
        go_enter Tryd.func31, Tryd.ntmps31
        go_wp2
        go_ret
        exact ⟨[], .inr ⟨by omega, rfl⟩, newRow_nil1 w _, Below.refl _ _⟩
    · have t2 : decide (n < 1) = true := by simp; omega
      go_enter Tryd.func31, Tryd.ntmps31
      go_wp2
      go_ret
      exact ⟨[], .inr ⟨by omega, rfl⟩, newRow_nil1 w _, Below.refl _ _⟩
  · have t1 : decide ((xs.length : Int) ≤ 128) = false := by simp; omega
    go_enter Tryd.func31, Tryd.ntmps31
    go_wp2
    go_ret
    exact ⟨[], .inr ⟨by omega, rfl⟩, newRow_nil1 w _, Below.refl _ _⟩

end Go.Proofs.YtbhmhkimddjhaaaDoor
/-
  The program's words of the order: a package's words in memory, scalars to and from bytes.
-/
namespace Go.Proofs.YtbhmhkimddjhaaaDoor
set_option maxRecDepth 100000
open Go.RowKit

/-- Block g holds n words f. -/
def HasW (w : World) (g : Nat) (f : Nat → Int) (n : Nat) : Prop := ∀ k, k < n → w.cell? ⟨g, k, none⟩ = some (.int .u64 (f k))
theorem HasW.of_block {w w' : World} {g n : Nat} {f : Nat → Int} (h : HasW w g f n) (hb : w'.heap[g]? = w.heap[g]?) : HasW w' g f n := fun k hk => (World.cell?_of_block (a := ⟨g, k, none⟩) hb).trans (h k hk)
theorem HasW.lt {w : World} {g n : Nat} {f : Nat → Int} (h : HasW w g f n) (hn : 0 < n) : g < w.heap.size := block_lt_of_cell (h 0 hn)
theorem HasW.up {w w' : World} {g n : Nat} {f : Nat → Int} (h : HasW w g f n) (b : Below w.heap.size w w') : HasW w' g f n := by
  by_cases hn : 0 < n
  · exact h.of_block (b.block g (h.lt hn))
  · exact fun k hk => absurd hk (by omega)
theorem HasW.f4 {w : World} {g : Nat} {f : Nat → Int} (h : HasW w g f 4) : w.cell? ⟨g, 0, none⟩ = some (.int .u64 (f 0)) ∧ w.cell? ⟨g, 1, none⟩ = some (.int .u64 (f 1)) ∧ w.cell? ⟨g, 2, none⟩ = some (.int .u64 (f 2)) ∧ w.cell? ⟨g, 3, none⟩ = some (.int .u64 (f 3)) :=
  ⟨h 0 (by omega), h 1 (by omega), h 2 (by omega), h 3 (by omega)⟩

set_option maxHeartbeats 2000000 in
theorem scalarBytes_any (w : World) (W : Nat → Int) (hW : W4 W) :
    Calls Tryd.prog 49 #[ag4 W] w fun r w' => NewRow w.heap.size w' r .u8 (fill (byt (wval W)) 32) ∧ Below w.heap.size w w' := by
  have hal : Below w.heap.size w (w.alloc (.cells #[.int .u64 (W 0), .int .u64 (W 1), .int .u64 (W 2), .int .u64 (W 3)] 51)) := (Below.refl _ _).alloc (Nat.le_refl _) _
  have WB := fun w' => wordsBytes_any w' W hW
  simp only [ag4] at WB ⊢
  go_enter Tryd.func49, Tryd.ntmps49
  go_wp2_with fail
  generalize w.alloc (.cells #[.int .u64 (W 0), .int .u64 (W 1), .int .u64 (W 2), .int .u64 (W 3)] 51) = wa at *
  refine (WB wa).mono ?_
  rintro r w2 ⟨rfl, B, n2⟩
  have N2 := nxt hal n2
  have z := hal.size
  clear WB
  go_wp2
  go_ret
  exact ⟨⟨_, 32, wa.heap.size + 1, by rw [fill_len]; rfl, B.own0, by simp, by rw [fill_len]; omega, by omega⟩, N2⟩

set_option maxHeartbeats 2000000 in
theorem implOrderBytes_any (w : World) (hQ : HasW w 0 qw 4) :
    Calls Tryd.prog 12 #[] w fun r w' => NewRow w.heap.size w' r .u8 (fill (byt QQ) 32) ∧ Below w.heap.size w w' := by
  obtain ⟨q0, q1, q2, q3⟩ := hQ.f4
  have SB := fun w' => scalarBytes_any w' qw qw_W4
  rw [qw_val] at SB
  simp only [ag4] at SB
  generalize qw 0 = a0 at *
  generalize qw 1 = a1 at *
  generalize qw 2 = a2 at *
  generalize qw 3 = a3 at *
  go_enter Tryd.func12, Tryd.ntmps12
  go_wp2_with fail
  refine (SB w).mono ?_
  rintro r w2 ⟨⟨a4, c4, g4, rfl, o4, p4, q4, r4⟩, n2⟩
  clear SB
  go_wp2
  go_ret
  exact ⟨⟨a4, c4, g4, rfl, o4, p4, q4, r4⟩, n2⟩
end Go.Proofs.YtbhmhkimddjhaaaDoor
