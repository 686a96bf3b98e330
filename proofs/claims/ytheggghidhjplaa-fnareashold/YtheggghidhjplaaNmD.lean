
/-
  The program's PatternOutside.
-/
import Derived.Test.YtheggghidhjplaaStA
namespace Go.Proofs.Ytheggghidhjplaa
open Go Go.RowKit

set_option maxHeartbeats 1000000 in
theorem trimPrefix_any (w : World) (l : List UInt8) (hl : l.length ≤ 9223372036854775807) :
    Calls Try.prog 67 #[.string ⟨⟨l⟩⟩, .string ⟨#[42, 46]⟩] w fun e w' => e = .returned (.string ⟨⟨bas l⟩⟩) ∧ w' = w := by
  have hsz := tx_size l
  have C : ∀ w, Hid (Calls Try.prog 105 #[.string ⟨⟨l⟩⟩, .string ⟨#[42, 46]⟩] w fun e w' => e = .returned (.string ⟨⟨bas l⟩⟩) ∧ w' = w) := by
    intro w
    show Calls _ _ _ _ _
    have HP := hide (hasPrefix_any w l hl)
    cases hs : star l with
    | false =>
      rw [hs] at HP
      have EQ : Hid (bas l = l) := by
        show _ = _
        unfold bas
        rw [if_neg (by rw [hs]; decide)]
      go_enter Try.func105, Try.ntmps105
      go_wp2_with fail
      refine HP.out.mono ?_
      rintro e w1 ⟨rfl, rfl⟩
      go_wp2
      go_ret
      exact ⟨by rw [EQ.out]; rfl, rfl⟩
    | true =>
      rw [hs] at HP
      have h2 := star_len hs
      have EQ : Hid (bas l = l.drop 2) := by
        show _ = _
        unfold bas
        rw [if_pos hs]
      have ex : (ByteArray.mk ⟨l⟩).extract 2 l.length = ByteArray.mk ⟨l.drop 2⟩ := by
        have := ByteArray.extract_mk l 2 l.length
        rw [List.take_of_length_le (by rw [List.length_drop]; omega)] at this
        exact this
      have t1 : (2 : Int) ≤ (l.length : Int) := by omega
      go_enter Try.func105, Try.ntmps105
      go_wp2_with fail
      refine HP.out.mono ?_
      rintro e w1 ⟨rfl, rfl⟩
      go_wp2
      go_ret
      exact ⟨by rw [EQ.out]; rfl, rfl⟩
  generalize bas l = c at *
  go_enter Try.func67, Try.ntmps67
  go_wp2_with fail
  refine (C w).out.mono ?_
  rintro e w1 ⟨rfl, rfl⟩
  go_wp2
  go_ret
  exact ⟨rfl, rfl⟩
set_option maxHeartbeats 1000000 in
theorem clo1_any (w : World) (n a : List UInt8) (b : Nat) (hc : w.cell? ⟨b, 0, none⟩ = some (tx n)) (hn : n.length ≤ 9223372036854775807) (ha : a.length ≤ 9223372036854775807) :
    Calls Try.prog 68 #[.string ⟨⟨a⟩⟩, .pointer (some ⟨b, 0, none⟩)] w fun e w' => e = .returned (.bool (niB n a)) ∧ w' = w := by
  have NI := hide (implNameInside_any w n a hn ha)
  generalize niB n a = z at *
  unfold tx at hc
  go_enter Try.func68, Try.ntmps68
  go_wp2_with fail
  refine NI.out.mono ?_
  rintro e w1 ⟨rfl, h1⟩
  have h1' := h1.symm
  subst h1'
  go_wp2
  go_ret
  exact ⟨rfl, rfl⟩
set_option maxHeartbeats 1000000 in
theorem clo2_any (w : World) (p n a : List UInt8) (b b8 b3 : Nat) (hc : w.cell? ⟨b, 0, none⟩ = some (tx n)) (hc8 : w.cell? ⟨b8, 0, none⟩ = some (.func (.func 68) #[] #[.pointer (some ⟨b, 0, none⟩)])) (hc3 : w.cell? ⟨b3, 0, none⟩ = some (tx p))
    (hp : p.length ≤ 9223372036854775807) (hn : n.length ≤ 9223372036854775807) (ha : a.length ≤ 9223372036854775807) :
    Calls Try.prog 70 #[.string ⟨⟨a⟩⟩, .pointer (some ⟨b8, 0, none⟩), .pointer (some ⟨b3, 0, none⟩)] w fun e w' => e = .returned (.bool (niB n a || nmB p a)) ∧ Below w.heap.size w w' := by
  have C1 := hide (clo1_any w n a b hc hn ha)
  have NM := hide (implNameMatches_any w p a hp ha)
  clear hc
  unfold tx at hc3
  cases hz : niB n a with
  | true =>
    rw [hz] at C1
    clear hz
    go_enter Try.func70, Try.ntmps70
    go_wp2_with fail
    refine C1.out.mono ?_
    rintro e w1 ⟨rfl, h1⟩
    have h1' := h1.symm
    subst h1'
    go_wp2
    go_ret
    exact ⟨rfl, Below.refl _ _⟩
  | false =>
    rw [hz] at C1
    clear hz
    generalize nmB p a = y at *
    go_enter Try.func70, Try.ntmps70
    go_wp2_with fail
    refine C1.out.mono ?_
    rintro e w1 ⟨rfl, h1⟩
    have h1' := h1.symm
    subst h1'
    go_wp2_with fail
    refine NM.out.mono ?_
    rintro e w2 ⟨rfl, n2⟩
    go_wp2
    go_ret
    exact ⟨by cases y <;> rfl, n2⟩
theorem any_take {ls : List (List UInt8)} {q : List UInt8 → Bool} {k : Nat} (hk : k < ls.length) : (ls.take (k + 1)).any q = ((ls.take k).any q || q (ls.getD k [])) := by
  have e : ls.take (k + 1) = ls.take k ++ [ls.getD k []] := by
    rw [List.take_succ_eq_append_getElem hk]
    congr 2
    simp [hk]
  rw [e]
  simp
theorem any_of {ls : List (List UInt8)} {q : List UInt8 → Bool} {k : Nat} (hk : k < ls.length) (h : q (ls.getD k []) = true) : ls.any q = true := by
  rw [List.any_eq_true]
  exact ⟨_, by simp [hk], h⟩

set_option maxHeartbeats 2000000 in
theorem idxF1_any (w : World) (g : Nat) (a : Option Addr) (c : Nat) (ls : List (List UInt8)) (n : List UInt8) (b : Nat) (hr : RdT w g a ls) (hc : w.cell? ⟨b, 0, none⟩ = some (tx n)) (hn : n.length ≤ 9223372036854775807) (hln : ls.length ≤ 9223372036854775807) (hls : ∀ l ∈ ls, l.length ≤ 9223372036854775807) :
    Calls Try.prog 106 #[.slice a ls.length c, .func (.func 68) #[] #[.pointer (some ⟨b, 0, none⟩)]] w fun e w' => (∃ r : Int, e = .returned (.int .i64 r) ∧ decide (0 ≤ r) = ls.any (fun l => niB n l)) ∧ Below w.heap.size w w' := by
  go_enter Try.func106, Try.ntmps106
  go_wp2
  go_loopw [8] (fun i wr => Below w.heap.size w wr ∧ ∃ k : Nat, k ≤ ls.length ∧ i = .int .i64 k ∧ Hid ((ls.take k).any (fun l => niB n l) = false)) (fun i _ => ls.length - (intOf i).toNat)
  case atStart => exact ⟨Below.refl _ _, 0, by omega, rfl, by show _ = _; simp⟩
  case round =>
    obtain ⟨nb, k, hk, rfl, hA⟩ := hrel
    have HN := hide nb
    by_cases hlt : k < ls.length
    · have t2 : (k : Int) < (ls.length : Int) := by omega
      obtain ⟨off, rfl, hcl⟩ := (hr.up nb) (by omega)
      have c1 := hcl k hlt
      have hx : (ls.getD k []).length ≤ 9223372036854775807 := hls _ (by simp [hlt])
      have CC0 := clo1_any wr n (ls.getD k []) b ((nb.cell (block_lt_of_cell hc)).trans hc) hn hx
      have CC : Hid (Calls Try.prog 68 #[.string ⟨⟨ls.getD k []⟩⟩, .pointer (some ⟨b, 0, none⟩)] wr fun e w' => e = .returned (.bool (niB n (ls.getD k []))) ∧ Below wr.heap.size wr w') := by
        show Calls _ _ _ _ _
        refine CC0.mono ?_
        rintro e w2 ⟨rfl, h2⟩
        rw [h2]
        exact ⟨rfl, Below.refl _ _⟩
      clear CC0
      have AT := hide (any_take (q := (fun l => niB n l)) hlt)
      have AO := hide (fun h => any_of (q := (fun l => niB n l)) hlt h)
      rw [hA.out] at AT
      clear hA nb hcl
      generalize ls.getD k [] = x at *
      unfold tx at c1
      cases hz : (fun l => niB n l) x with
      | false =>
        have hz' : Hid ((fun l => niB n l) x = false) := hz
        simp only at hz
        rw [hz] at CC
        clear hz AO
        go_wp2_with fail
        refine CC.out.mono ?_
        rintro e w1 ⟨rfl, n1⟩
        go_wp2
        go_roundw
        case rel => exact ⟨nxt HN.out n1, k + 1, by omega, by go_num, by show _ = _; rw [AT.out, hz'.out]; rfl⟩
        case measure => simp [intOf]; omega
      | true =>
        have AO' := hide (AO.out hz)
        simp only at hz
        rw [hz] at CC
        clear hz AO AT
        go_wp2_with fail
        refine CC.out.mono ?_
        rintro e w1 ⟨rfl, n1⟩
        go_wp2
        go_ret
        exact ⟨⟨_, rfl, by rw [AO'.out]; exact decide_eq_true (by omega)⟩, nxt HN.out n1⟩
    · obtain rfl : k = ls.length := by omega
      rw [List.take_length] at hA
      clear nb
      go_wp2
      go_ret
      exact ⟨⟨_, rfl, by rw [hA.out]; rfl⟩, HN.out⟩
set_option maxHeartbeats 2000000 in
theorem conF1_any (w : World) (g : Nat) (a : Option Addr) (c : Nat) (ls : List (List UInt8)) (n : List UInt8) (b : Nat) (hr : RdT w g a ls) (hc : w.cell? ⟨b, 0, none⟩ = some (tx n)) (hn : n.length ≤ 9223372036854775807) (hln : ls.length ≤ 9223372036854775807) (hls : ∀ l ∈ ls, l.length ≤ 9223372036854775807) :
    Calls Try.prog 69 #[.slice a ls.length c, .func (.func 68) #[] #[.pointer (some ⟨b, 0, none⟩)]] w fun e w' => e = .returned (.bool (ls.any (fun l => niB n l))) ∧ Below w.heap.size w w' := by
  have IX := hide (idxF1_any w g a c ls n b hr hc hn hln hls)
  generalize ls.any (fun l => niB n l) = z at *
  go_enter Try.func69, Try.ntmps69
  go_wp2_with fail
  refine IX.out.mono ?_
  rintro e w1 ⟨⟨r, rfl, hrz⟩, n1⟩
  have HZ := hide hrz
  clear hrz
  go_wp2
  go_ret
  exact ⟨by rw [← HZ.out]; rfl, n1⟩

set_option maxHeartbeats 2000000 in
theorem idxF2_any (w : World) (g : Nat) (a : Option Addr) (c : Nat) (ls : List (List UInt8)) (p n : List UInt8) (b b8 b3 : Nat) (hr : RdT w g a ls) (hc : w.cell? ⟨b, 0, none⟩ = some (tx n)) (hc8 : w.cell? ⟨b8, 0, none⟩ = some (.func (.func 68) #[] #[.pointer (some ⟨b, 0, none⟩)])) (hc3 : w.cell? ⟨b3, 0, none⟩ = some (tx p)) (hp : p.length ≤ 9223372036854775807) (hn : n.length ≤ 9223372036854775807) (hln : ls.length ≤ 9223372036854775807) (hls : ∀ l ∈ ls, l.length ≤ 9223372036854775807) :
    Calls Try.prog 106 #[.slice a ls.length c, .func (.func 70) #[] #[.pointer (some ⟨b8, 0, none⟩), .pointer (some ⟨b3, 0, none⟩)]] w fun e w' => (∃ r : Int, e = .returned (.int .i64 r) ∧ decide (0 ≤ r) = ls.any (fun l => niB n l || nmB p l)) ∧ Below w.heap.size w w' := by
  go_enter Try.func106, Try.ntmps106
  go_wp2
  go_loopw [8] (fun i wr => Below w.heap.size w wr ∧ ∃ k : Nat, k ≤ ls.length ∧ i = .int .i64 k ∧ Hid ((ls.take k).any (fun l => niB n l || nmB p l) = false)) (fun i _ => ls.length - (intOf i).toNat)
  case atStart => exact ⟨Below.refl _ _, 0, by omega, rfl, by show _ = _; simp⟩
  case round =>
    obtain ⟨nb, k, hk, rfl, hA⟩ := hrel
    have HN := hide nb
    by_cases hlt : k < ls.length
    · have t2 : (k : Int) < (ls.length : Int) := by omega
      obtain ⟨off, rfl, hcl⟩ := (hr.up nb) (by omega)
      have c1 := hcl k hlt
      have hx : (ls.getD k []).length ≤ 9223372036854775807 := hls _ (by simp [hlt])
      have CC := hide (clo2_any wr p n (ls.getD k []) b b8 b3 ((nb.cell (block_lt_of_cell hc)).trans hc) ((nb.cell (block_lt_of_cell hc8)).trans hc8) ((nb.cell (block_lt_of_cell hc3)).trans hc3) hp hn hx)
      have AT := hide (any_take (q := (fun l => niB n l || nmB p l)) hlt)
      have AO := hide (fun h => any_of (q := (fun l => niB n l || nmB p l)) hlt h)
      rw [hA.out] at AT
      clear hA nb hcl
      generalize ls.getD k [] = x at *
      unfold tx at c1
      cases hz : (fun l => niB n l || nmB p l) x with
      | false =>
        have hz' : Hid ((fun l => niB n l || nmB p l) x = false) := hz
        simp only at hz
        rw [hz] at CC
        clear hz AO
        go_wp2_with fail
        refine CC.out.mono ?_
        rintro e w1 ⟨rfl, n1⟩
        go_wp2
        go_roundw
        case rel => exact ⟨nxt HN.out n1, k + 1, by omega, by go_num, by show _ = _; rw [AT.out, hz'.out]; rfl⟩
        case measure => simp [intOf]; omega
      | true =>
        have AO' := hide (AO.out hz)
        simp only at hz
        rw [hz] at CC
        clear hz AO AT
        go_wp2_with fail
        refine CC.out.mono ?_
        rintro e w1 ⟨rfl, n1⟩
        go_wp2
        go_ret
        exact ⟨⟨_, rfl, by rw [AO'.out]; exact decide_eq_true (by omega)⟩, nxt HN.out n1⟩
    · obtain rfl : k = ls.length := by omega
      rw [List.take_length] at hA
      clear nb
      go_wp2
      go_ret
      exact ⟨⟨_, rfl, by rw [hA.out]; rfl⟩, HN.out⟩
set_option maxHeartbeats 2000000 in
theorem conF2_any (w : World) (g : Nat) (a : Option Addr) (c : Nat) (ls : List (List UInt8)) (p n : List UInt8) (b b8 b3 : Nat) (hr : RdT w g a ls) (hc : w.cell? ⟨b, 0, none⟩ = some (tx n)) (hc8 : w.cell? ⟨b8, 0, none⟩ = some (.func (.func 68) #[] #[.pointer (some ⟨b, 0, none⟩)])) (hc3 : w.cell? ⟨b3, 0, none⟩ = some (tx p)) (hp : p.length ≤ 9223372036854775807) (hn : n.length ≤ 9223372036854775807) (hln : ls.length ≤ 9223372036854775807) (hls : ∀ l ∈ ls, l.length ≤ 9223372036854775807) :
    Calls Try.prog 69 #[.slice a ls.length c, .func (.func 70) #[] #[.pointer (some ⟨b8, 0, none⟩), .pointer (some ⟨b3, 0, none⟩)]] w fun e w' => e = .returned (.bool (ls.any (fun l => niB n l || nmB p l))) ∧ Below w.heap.size w w' := by
  have IX := hide (idxF2_any w g a c ls p n b b8 b3 hr hc hc8 hc3 hp hn hln hls)
  generalize ls.any (fun l => niB n l || nmB p l) = z at *
  go_enter Try.func69, Try.ntmps69
  go_wp2_with fail
  refine IX.out.mono ?_
  rintro e w1 ⟨⟨r, rfl, hrz⟩, n1⟩
  have HZ := hide hrz
  clear hrz
  go_wp2
  go_ret
  exact ⟨by rw [← HZ.out]; rfl, n1⟩
end Go.Proofs.Ytheggghidhjplaa
