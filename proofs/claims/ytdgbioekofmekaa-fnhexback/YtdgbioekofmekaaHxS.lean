
/-
  The model's l20Nibble, l20Hex, DecodeHex.
-/
import Derived.Test.YtdgbioekofmekaaHxD
namespace Go.Proofs.Ytdgbioekofmekaa
open Go Go.RowKit

set_option maxRecDepth 100000 in
set_option maxHeartbeats 1000000 in
theorem l20Nibble_any (w : World) (c : UInt8) :
    Calls Try.prog 28 #[.int .u8 (c.toNat : Int)] w fun e w' => e = .returned (.int .i64 (nbV c)) ∧ w' = w := by
  have hlt := UInt8.toNat_lt c
  obtain ⟨n, hn⟩ : ∃ n, n = c.toNat := ⟨_, rfl⟩
  have E : Hid (nbV c = if 48 ≤ n ∧ n ≤ 57 then (n : Int) - 48 else if 97 ≤ n ∧ n ≤ 102 then (n : Int) - 87 else 0) := by show _ = _; rw [hn]; rfl
  rw [← hn] at hlt ⊢
  rw [E.out]
  clear E hn
  by_cases a1 : 48 ≤ n
  · have t1 : decide ((48 : Int) ≤ (n : Int)) = true := by simp; omega
    by_cases a2 : n ≤ 57
    · have t2 : decide ((n : Int) ≤ 57) = true := by simp; omega
      have m : ((n : Int) - 48) % 256 = (n : Int) - 48 := by omega
      rw [if_pos ⟨a1, a2⟩]
      go_enter Try.func28, Try.ntmps28
      go_wp2
      go_ret
      exact ⟨rfl, rfl⟩
    · have t2 : decide ((n : Int) ≤ 57) = false := by simp; omega
      rw [if_neg (by omega)]
      by_cases a3 : 97 ≤ n
      · have t3 : decide ((97 : Int) ≤ (n : Int)) = true := by simp; omega
        by_cases a4 : n ≤ 102
        · have t4 : decide ((n : Int) ≤ 102) = true := by simp; omega
          have m : ((n : Int) - 97) % 256 = (n : Int) - 97 := by omega
          rw [if_pos ⟨a3, a4⟩]
          go_enter Try.func28, Try.ntmps28
          go_wp2
          go_ret
          exact ⟨ret_int (by omega), rfl⟩
        · have t4 : decide ((n : Int) ≤ 102) = false := by simp; omega
          rw [if_neg (by omega)]
          go_enter Try.func28, Try.ntmps28
          go_wp2
          go_ret
          exact ⟨rfl, rfl⟩
      · have t3 : decide ((97 : Int) ≤ (n : Int)) = false := by simp; omega
        rw [if_neg (by omega)]
        go_enter Try.func28, Try.ntmps28
        go_wp2
        go_ret
        exact ⟨rfl, rfl⟩
  · have t1 : decide ((48 : Int) ≤ (n : Int)) = false := by simp; omega
    have t3 : decide ((97 : Int) ≤ (n : Int)) = false := by simp; omega
    rw [if_neg (by omega), if_neg (by omega)]
    go_enter Try.func28, Try.ntmps28
    go_wp2
    go_ret
    exact ⟨rfl, rfl⟩
theorem h2_succ (l : List UInt8) (k : Nat) (hk : k < l.length / 2) : (h2L l).take (k + 1) = (h2L l).take k ++ [nbV (l.getD (2 * k) 0) * 16 + nbV (l.getD (2 * k + 1) 0)] := by
  have hk' : k < (h2L l).length := by rw [h2L_len]; exact hk
  rw [← h2L_get l k hk, List.take_add_one, List.getElem?_eq_getElem hk']
  simp [List.getD, List.getElem?_eq_getElem hk']
set_option maxRecDepth 100000 in
set_option maxHeartbeats 8000000 in
theorem l20Hex_any (w : World) (l : List UInt8) (hl : l.length ≤ 1048576) :
    Calls Try.prog 19 #[.string ⟨⟨l⟩⟩] w fun e w' => ∃ v, e = .returned v ∧ RowB w' w.heap.size v (h2L l) ∧ Below w.heap.size w w' := by
  obtain ⟨i0, hi, hz0, hz1, hz2⟩ := info_parts Try.info5
  have hsz := tx_size l
  have hal : Below w.heap.size w (w.alloc (.cells #[] 5)) := (Below.refl _ _).alloc (Nat.le_refl _) _
  have HT := fun k hk => hide (h2_succ l k hk)
  have HL := h2L_len l
  obtain ⟨m, hm⟩ : ∃ m, m = l.length / 2 := ⟨_, rfl⟩
  have ET : Hid ((h2L l).take m = h2L l) := by show _ = _; rw [List.take_of_length_le (by rw [HL, ← hm]; exact Nat.le_refl _)]
  have HM := hide hm
  obtain ⟨n, hn⟩ : ∃ n, n = l.length := ⟨_, rfl⟩
  have HN := hide hn
  rw [← hn] at hl hsz hm HL
  clear hn
  go_enter Try.func19, Try.ntmps19
  go_wp2
  go_loopw [3, 4] (fun v i wr => ∃ (k : Nat), k ≤ m ∧ i = .int .i64 ((2 * k : Nat) : Int) ∧ RowB wr w.heap.size v ((h2L l).take k) ∧ Below w.heap.size w wr) (fun _ i _ => n - (intOf i).toNat)
  case atStart => exact ⟨0, Nat.zero_le _, rfl, RowB.lit0 w, hal⟩
  case round =>
    obtain ⟨k, hk, rfl, R, N⟩ := hrel
    by_cases hlt : k < m
    · have ht := HT k (by rw [← HM.out]; exact hlt)
      obtain ⟨i, hie⟩ : ∃ i, i = 2 * k := ⟨_, rfl⟩
      rw [← hie] at ht ⊢
      have i1 : i + 1 < n := by omega
      have ix1 := fun W => run_tx (P := Try.prog) W 9 l i Try.underlying9 (by rw [← HN.out]; omega)
      have ix2 := fun W => run_tx (P := Try.prog) W 9 l (i + 1) Try.underlying9 (by rw [← HN.out]; omega)
      obtain ⟨a, ha⟩ : ∃ a, a = l.getD i 0 := ⟨_, rfl⟩
      obtain ⟨b, hb⟩ : ∃ b, b = l.getD (i + 1) 0 := ⟨_, rfl⟩
      rw [← ha] at ix1 ht
      rw [← hb] at ix2 ht
      have cI : ((i + 1 : Nat) : Int) = (i : Int) + 1 := by omega
      rw [cI] at ix2
      have iI : (i : Int) + 1 < (n : Int) := by omega
      have NA := fun W => hide (l20Nibble_any W a)
      have NB := fun W => hide (l20Nibble_any W b)
      have ba := nbV_bd a
      have bb := nbV_bd b
      have zs := N.size
      have HIE := hide hie
      clear ha hb HT HL cI hie
      generalize nbV a = p at *
      generalize nbV b = q at *
      generalize ex : (a.toNat : Int) = x at *
      generalize ey : (b.toNat : Int) = y at *
      clear ex ey
      have m1 : (p * 16 + q) % 256 = p * 16 + q := by omega
      have m2 : IntKind.u8.wrap (p * 16 + q) = p * 16 + q := by rw [IntKind.wrap_u8]; omega
      have m3 : IntKind.i64.wrap (p * 16) = p * 16 := by rw [IntKind.wrap_i64]; omega
      have m4 : IntKind.i64.wrap (p * 16 + q) = p * 16 + q := by rw [IntKind.wrap_i64]; omega
      have m5 : IntKind.i64.wrap ((i : Int) + 1) = (i : Int) + 1 := by rw [IntKind.wrap_i64]; omega
      have A0 : Hid (∃ v' w7, (Builtin.append_ #[22, 22] 22 #[u3, .slice (some ⟨wr.heap.size, 0, none⟩) 1 1]).run Try.prog (wr.drew.alloc (.cells #[.int .u8 (p * 16 + q)] 5)) = .ok v' w7 ∧ RowB w7 w.heap.size v' ((h2L l).take (k + 1)) ∧ Below w.heap.size w w7) := by
        have n6 : Below wr.heap.size wr (wr.drew.alloc (.cells #[.int .u8 (p * 16 + q)] 5)) := ((Below.refl _ _).drew).alloc (Nat.le_refl _) _
        have B6 : Blk (wr.drew.alloc (.cells #[.int .u8 (p * 16 + q)] 5)) wr.heap.size .u8 [p * 16 + q] := blk_lit1 wr.drew .u8 5 _
        obtain ⟨v', w7, hap, o7, m7⟩ := append_any (P := Try.prog) _ 22 i0 Try.underlying22 hi hz0 hz1 hz2 w.heap.size w.heap.size _ _ (R.up n6) wr.heap.size _ 1 [p * 16 + q] B6.own0.rd (by simp) (by simp; omega) (Nat.le_refl _) (by have := n6.size; omega)
        refine ⟨v', w7, hap, by rw [ht.out]; exact o7, (N.trans (n6.mono zs)).trans m7⟩
      clear R ht
      go_upto_region 5 with fail
      go_region_held3 (fun _ => True) (exact trivial)
        (first
          | (refine step_append_exX rfl (.tmp 13) (.tmp 26) 22 22 rfl _ (.slice (some ⟨wr.heap.size, 0, none⟩) 1 1) rfl rfl _ A0.out ?_; rintro v' w7 ⟨o7, N7⟩)
          | (go_at_call 28; (first | with_reducible refine (NA _).out.mono ?_ | with_reducible refine (NB _).out.mono ?_); rintro e w' ⟨rfl, h⟩; have h := h.symm; subst h)
          | fail)
      all_goals (try clear A0)
      all_goals go_wp2
      all_goals first
        | exact ⟨⟨k + 1, by omega, by have := HIE.out; go_num, o7, N7⟩, by simp [intOf]; omega⟩
        | (go_roundw
           all_goals first
             | exact ⟨k + 1, by omega, by have := HIE.out; go_num, o7, N7⟩
             | (simp [intOf]; omega))
    · obtain rfl : k = m := by omega
      have R' := R
      rw [ET.out] at R'
      have t1 : ¬ (((2 * k : Nat) : Int) + 1 < (n : Int)) := by omega
      go_wp2
      go_ret
      exact ⟨_, rfl, R', N⟩
end Go.Proofs.Ytdgbioekofmekaa
