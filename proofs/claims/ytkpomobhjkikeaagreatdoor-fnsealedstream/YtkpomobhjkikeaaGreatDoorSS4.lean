import Derived.Test.YtkpomobhjkikeaaGreatDoorSS2
import Derived.Test.YtkpomobhjkikeaaGreatDoorSS3
import Derived.Lib.AppendZeros
namespace Go.Proofs.YtkpomobhjkikeaaGreatDoor
set_option maxRecDepth 100000
open Go Go.RowKit
structure Lst where
  g : Nat
  a : Option Addr
  c : Nat
  xs : List Int
def cat (ls : List Lst) : List Int := (ls.map Lst.xs).flatten
theorem cat_take (ls : List Lst) (j : Nat) (l : Lst) (h : ls[j]? = some l) : cat (ls.take (j + 1)) = cat (ls.take j) ++ l.xs := by
  unfold cat
  rw [List.take_add_one, h]
  simp
def Lsts (w : World) (b : Nat) (ls : List Lst) : Prop := ∀ j l, ls[j]? = some l → w.cell? ⟨b, j, none⟩ = some (.slice l.a l.xs.length l.c)
theorem Lsts.up {w w' : World} {b : Nat} {ls : List Lst} (h : Lsts w b ls) (n : Below w.heap.size w w') : Lsts w' b ls := fun j l hj => by
  have := h j l hj
  rw [World.cell?_of_block (a := ⟨b, j, none⟩) (n.block b (block_lt_of_cell this))]
  exact this
set_option maxRecDepth 100000 in
set_option maxHeartbeats 1000000 in
theorem grow_any (w : World) (n : Nat) (h0 : 0 < n) (h1 : n ≤ 4194304) :
    Calls Tryz.prog 58 #[.slice none 0 0, .int .i64 (n : Int)] w fun e w' => ∃ v, e = .returned v ∧ RowB w' w.heap.size v [] ∧ Below w.heap.size w w' := by
  obtain ⟨i0, hi, hz0, hz1, hz2⟩ := info_parts Tryz.info5
  have hap := Lib.run_append_nil_zeros (P := Tryz.prog) w 22 3 22 5 i0 (.int .u8 0) .i64 .i64 Tryz.underlying22 Tryz.underlying3 hi hz0 n h0 (by omega) (by omega) (by rw [hz2]; omega)
  have ge := grownCap_ge w n 0 5
  have le : grownCap w n 0 5 ≤ maxLen := grownCap_le_maxLen w n 0 5 (by unfold maxLen; omega)
  have R : RowB (w.drew.alloc (.cells (Builtin.zeroCells (Value.int .u8 0).cells n ++ Builtin.zeroCells (Value.int .u8 0).cells (grownCap w n 0 5 - n)) 5)) w.heap.size (.slice (some ⟨w.heap.size, 0, none⟩) 0 (grownCap w n 0 5)) [] :=
    ⟨rfl, .inr ⟨w.heap.size, grownCap w n 0 5, _, rfl, Nat.le_refl _, _root_.Go.heap_alloc_new w.drew _, Nat.zero_le _, le, by rw [Array.size_append, size_zeroCells, size_zeroCells]; show n * 1 + (grownCap w n 0 5 - n) * 1 = _; omega, by simp⟩⟩
  have nb : Below w.heap.size w (w.drew.alloc (.cells (Builtin.zeroCells (Value.int .u8 0).cells n ++ Builtin.zeroCells (Value.int .u8 0).cells (grownCap w n 0 5 - n)) 5)) := ((Below.refl _ _).drew).alloc (Nat.le_refl _) _
  generalize w.drew.alloc (.cells (Builtin.zeroCells (Value.int .u8 0).cells n ++ Builtin.zeroCells (Value.int .u8 0).cells (grownCap w n 0 5 - n)) 5) = w' at *
  generalize grownCap w n 0 5 = cp at *
  have n0 : decide ((n : Int) < 0) = false := by simp
  have n1 : decide ((0 : Int) < (n : Int)) = true := by simp; omega
  have n2 : decide (0 < n) = true := by simpa using h0
  clear ge le
  go_enter Tryz.func58, Tryz.ntmps58
  go_wp2_with (at_builtin; refine Lib.wpList_append_run _ rfl _ _ 22 3 rfl _ _ rfl rfl _ _ hap ?_)
  go_ret
  exact ⟨_, rfl, R, nb⟩
theorem cat_len_le (ls : List Lst) (j : Nat) : (cat (ls.take j)).length ≤ (cat ls).length := by
  have : cat ls = cat (ls.take j) ++ cat (ls.drop j) := by
    unfold cat
    rw [← List.flatten_append, ← List.map_append, List.take_append_drop]
  rw [this, List.length_append]
  omega
set_option maxRecDepth 100000 in
set_option maxHeartbeats 4000000 in
theorem concatB_any (w : World) (b n c : Nat) (ls : List Lst) (hn : ls.length = n) (hm : n ≤ 1000) (hs : Lsts w b ls) (hl : ∀ l ∈ ls, Rd w l.g l.a .u8 l.xs ∧ (l.a = none → l.c = 0)) (h0 : 0 < (cat ls).length) (h1 : (cat ls).length ≤ 4194304) :
    Calls Tryz.prog 36 #[.slice (some ⟨b, 0, none⟩) n c] w fun e w' => (∃ v, e = .returned v ∧ RowB w' w.heap.size v (cat ls)) ∧ Below w.heap.size w w' := by
  obtain ⟨i0, hi, hz0, hz1, hz2⟩ := info_parts Tryz.info5
  have HN := hide hn
  clear hn
  obtain ⟨rs, hrs⟩ : ∃ l, l = cat ls := ⟨_, rfl⟩
  have HR := hide hrs
  rw [← hrs] at h0 h1 ⊢
  clear hrs
  have GR := hide (grow_any w rs.length h0 h1)
  go_enter Tryz.func36, Tryz.ntmps36
  go_wp2
  go_loopw [3, 5, 11] (fun s _ i wr => ∃ (j : Nat), j ≤ n ∧ i = .int .i64 j ∧ s = .int .i64 ((cat (ls.take j)).length : Int) ∧ w = wr) (fun _ _ i _ => n - (intOf i).toNat)
  case atStart => exact ⟨0, Nat.zero_le _, rfl, rfl, rfl⟩
  case round =>
    obtain ⟨j, hj, rfl, rfl, rfl⟩ := hrel
    by_cases hlt : j < n
    · obtain ⟨l, hjl⟩ : ∃ l, ls[j]? = some l := ⟨ls[j]'(by rw [HN.out]; exact hlt), List.getElem?_eq_getElem _⟩
      have cc := hs j l hjl
      have ct := cat_take ls j l hjl
      have lb := cat_len_le ls (j + 1)
      rw [← HR.out, ct, List.length_append] at lb
      have CT : Hid ((cat (ls.take (j + 1))).length = (cat (ls.take j)).length + l.xs.length) := by show _ = _; rw [ct, List.length_append]
      clear ct
      generalize (cat (ls.take j)).length = cj at *
      have jn : (j : Int) < (n : Int) := by omega
      have c0 : decide ((cj : Int) + (l.xs.length : Int) < 0) = false := by simp; omega
      go_wp2
      go_roundw
      case rel => exact ⟨j + 1, by omega, by go_num, by rw [CT.out]; go_num, by trivial⟩
      case measure => simp [intOf]; omega
    · obtain rfl : j = n := by omega
      have e : ls.take j = ls := List.take_of_length_le (by rw [HN.out]; exact Nat.le_refl _)
      rw [e, ← HR.out]
      clear e
      go_wp2_with fail
      refine GR.out.mono ?_
      rintro r w1 ⟨v1, rfl, R1, n1⟩
      go_wp2
      go_loopw [6, 8, 27] (fun v _ i wq => ∃ (k : Nat), k ≤ j ∧ i = .int .i64 k ∧ RowB wq w.heap.size v (cat (ls.take k)) ∧ Below w.heap.size w wq) (fun _ _ i _ => j - (intOf i).toNat)
      case atStart => exact ⟨0, Nat.zero_le _, rfl, R1, n1⟩
      case round =>
        obtain ⟨k, hk, rfl, R, hN⟩ := hrel
        clear R1 n1 GR
        by_cases hlt2 : k < j
        · obtain ⟨l, hjl⟩ : ∃ l, ls[k]? = some l := ⟨ls[k]'(by rw [HN.out]; exact hlt2), List.getElem?_eq_getElem _⟩
          have lm : l ∈ ls := List.mem_of_getElem? hjl
          have cc := (hs.up hN) k l hjl
          have ct := cat_take ls k l hjl
          have lb := cat_len_le ls (k + 1)
          rw [← HR.out, ct, List.length_append] at lb
          obtain ⟨v', w2, hap, o2, n2⟩ := append_any (P := Tryz.prog) wr 22 i0 Tryz.underlying22 hi hz0 hz1 hz2 w.heap.size w.heap.size _ _ R l.g l.a l.c l.xs ((hl l lm).1.up hN) (hl l lm).2 (by omega) (Nat.le_refl _) hN.size
          rw [← ct] at o2
          have N2 := hN.trans n2
          have kj : (k : Int) < (j : Int) := by omega
          clear ct lb R n2
          go_wp2_with (at_builtin; refine Lib.wpList_append_run _ rfl _ _ 22 22 rfl _ _ rfl rfl _ _ hap ?_)
          clear hap
          go_roundw
          case rel => exact ⟨k + 1, by omega, by go_num, o2, N2⟩
          case measure => simp [intOf]; omega
        · obtain rfl : k = j := by omega
          have e : ls.take k = ls := List.take_of_length_le (by rw [HN.out]; exact Nat.le_refl _)
          rw [e, ← HR.out] at R
          clear e
          go_wp2
          go_ret
          exact ⟨⟨_, rfl, R⟩, hN⟩
theorem concat_any (w : World) (b n c : Nat) (ls : List Lst) (hn : ls.length = n) (hm : n ≤ 1000) (hs : Lsts w b ls) (hl : ∀ l ∈ ls, Rd w l.g l.a .u8 l.xs ∧ (l.a = none → l.c = 0)) (h0 : 0 < (cat ls).length) (h1 : (cat ls).length ≤ 4194304) :
    Calls Tryz.prog 36 #[.slice (some ⟨b, 0, none⟩) n c] w fun e w' => NewRow w.heap.size w' e .u8 (cat ls) ∧ Below w.heap.size w w' := by
  refine (concatB_any w b n c ls hn hm hs hl h0 h1).mono ?_
  rintro e w' ⟨⟨v, rfl, R⟩, n⟩
  obtain ⟨a4, c4, g4, rfl, o4, p4, q4, r4⟩ := R.own
  exact ⟨⟨a4, c4, g4, rfl, o4, p4, q4, r4⟩, n⟩
end Go.Proofs.YtkpomobhjkikeaaGreatDoor
