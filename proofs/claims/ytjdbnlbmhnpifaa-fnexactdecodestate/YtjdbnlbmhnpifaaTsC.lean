
/-
  The laws' helpers on a TicketState: counted, copied, held against each other, marked, marks asked for (written by gens/tsc.py).
-/
import Derived.Test.YtjdbnlbmhnpifaaTcH
import Derived.Test.YtjdbnlbmhnpifaaHelp
import Derived.Test.YtjdbnlbmhnpifaaSzR
import Derived.Deep.DeepCutAuto
namespace Go.Proofs.Ytjdbnlbmhnpifaa
open Go Go.RowKit

set_option maxHeartbeats 1000000 in
theorem szTicketState_any (w : World) (md li : Int) (ho pr : ByteArray) (ea : Int) (a : Option Addr) (n c : Nat) (a' : Option Addr) (n' c' : Nat) (left : Int) (hn : n < 9223372036854775808) (hn' : n' < 9223372036854775808) (hh : ho.size < 9223372036854775808) (hp : pr.size < 9223372036854775808) (hl : 0 ≤ left) (hm : left ≤ 1048576) :
    Calls Try.prog 6 #[.agg #[.slice a n c, .slice a' n' c', .int .i64 md, .int .i64 li, .string ho, .string pr, .int .i64 ea], .int .i64 left] w fun e w' => e = .returned (.int .i64 (if left < (n : Int) + (n' : Int) + (ho.size : Int) + (pr.size : Int) then -1 else left - (n : Int) - (n' : Int) - (ho.size : Int) - (pr.size : Int))) ∧ Below w.heap.size w w' := by
  have n1 : Below w.heap.size w (w.alloc (.cells #[.slice a n c, .slice a' n' c', .int .i64 md, .int .i64 li, .string ho, .string pr, .int .i64 ea] 24)) := (Below.refl _ _).alloc (Nat.le_refl _) _
  have S1 := fun W => szByteR W a n c left hn (by omega) (by omega)
  by_cases h0 : left < (n : Int)
  · rw [if_pos (by omega)]
    rw [if_pos h0] at S1
    go_enter Try.func6, Try.ntmps6
    go_wp2_with fail
    refine (S1 _).mono ?_
    rintro e w2 ⟨rfl, rfl⟩
    go_wp2
    go_ret
    exact ⟨rfl, n1⟩
  · have t0 : decide (left - (n : Int) < 0) = false := by simp; omega
    rw [if_neg h0] at S1
    have S2 := fun W => szByteR W a' n' c' (left - (n : Int)) hn' (by omega) (by omega)
    by_cases h1 : left - (n : Int) < (n' : Int)
    · rw [if_pos (by omega)]
      rw [if_pos h1] at S2
      go_enter Try.func6, Try.ntmps6
      go_wp2_with fail
      refine (S1 _).mono ?_
      rintro e w2 ⟨rfl, rfl⟩
      go_wp2_with fail
      refine (S2 _).mono ?_
      rintro e w2 ⟨rfl, rfl⟩
      go_wp2
      go_ret
      exact ⟨rfl, n1⟩
    · have t1 : decide (left - (n : Int) - (n' : Int) < 0) = false := by simp; omega
      rw [if_neg h1] at S2
      by_cases h2 : left - (n : Int) - (n' : Int) < (ho.size : Int)
      · rw [if_pos (by omega)]
        have tb : decide (left - (n : Int) - (n' : Int) - (ho.size : Int) < 0) = true := by simp; omega
        go_enter Try.func6, Try.ntmps6
        go_wp2_with fail
        refine (S1 _).mono ?_
        rintro e w2 ⟨rfl, rfl⟩
        go_wp2_with fail
        refine (S2 _).mono ?_
        rintro e w2 ⟨rfl, rfl⟩
        go_wp2
        go_ret
        exact ⟨rfl, n1⟩
      · have t2 : decide (left - (n : Int) - (n' : Int) - (ho.size : Int) < 0) = false := by simp; omega
        by_cases h3 : left - (n : Int) - (n' : Int) - (ho.size : Int) < (pr.size : Int)
        · rw [if_pos (by omega)]
          have tb : decide (left - (n : Int) - (n' : Int) - (ho.size : Int) - (pr.size : Int) < 0) = true := by simp; omega
          go_enter Try.func6, Try.ntmps6
          go_wp2_with fail
          refine (S1 _).mono ?_
          rintro e w2 ⟨rfl, rfl⟩
          go_wp2_with fail
          refine (S2 _).mono ?_
          rintro e w2 ⟨rfl, rfl⟩
          go_wp2
          go_ret
          exact ⟨rfl, n1⟩
        · have t3 : decide (left - (n : Int) - (n' : Int) - (ho.size : Int) - (pr.size : Int) < 0) = false := by simp; omega
          rw [if_neg (by omega)]
          go_enter Try.func6, Try.ntmps6
          go_wp2_with fail
          refine (S1 _).mono ?_
          rintro e w2 ⟨rfl, rfl⟩
          go_wp2_with fail
          refine (S2 _).mono ?_
          rintro e w2 ⟨rfl, rfl⟩
          go_wp2
          go_ret
          exact ⟨rfl, n1⟩
theorem iTs : (Try.prog.info? 27).map (·.size) = some 7 := by kernel_rfl
theorem rowTs : ∃ d, Try.prog.underlying 27 = some d ∧ d.isRow = true := ⟨_, Try.underlying27, rfl⟩
theorem oneTs (md li : Int) (ho pr : ByteArray) (ea : Int) (a a' : Option Addr) (n c n' c' : Nat) : ([.slice a n c, .slice a' n' c', .int .i64 md, .int .i64 li, .string ho, .string pr, .int .i64 ea] : List Value).toArray.all (·.oneCell') = true := all_oneCell_toArray fun v hv => by
  simp only [List.mem_cons, List.not_mem_nil, or_false] at hv
  rcases hv with rfl | rfl | rfl | rfl | rfl | rfl | rfl
  all_goals rfl
set_option maxHeartbeats 8000000 in
theorem toTicketState_any (w : World) (md li : Int) (ho pr : ByteArray) (ea : Int) (g : Nat) (a : Option Addr) (c : Nat) (xs : List Int) (g' : Nat) (a' : Option Addr) (c' : Nat) (ys : List Int) (hr : Rd w g a .u8 xs) (hr' : Rd w g' a' .u8 ys) (hn : xs.length ≤ 1048576) (hn' : ys.length ≤ 1048576) :
    Calls Try.prog 8 #[.agg #[.slice a xs.length c, .slice a' ys.length c', .int .i64 md, .int .i64 li, .string ho, .string pr, .int .i64 ea]] w fun e w' => ∃ p p', e = .returned (.agg #[.slice (some ⟨p, 0, none⟩) xs.length xs.length, .slice (some ⟨p', 0, none⟩) ys.length ys.length, .int .i64 md, .int .i64 li, .string ho, .string pr, .int .i64 ea]) ∧ Blk w' p .u8 xs ∧ Blk w' p' .u8 ys ∧ w.heap.size ≤ p ∧ p < p' ∧ Below w.heap.size w w' := by
  have T0 := TMs.new w 24 27 [.slice a xs.length c, .slice a' ys.length c', .int .i64 md, .int .i64 li, .string ho, .string pr, .int .i64 ea] [.slice none 0 0, .slice none 0 0, .int .i64 0, .int .i64 0, .string ⟨#[]⟩, .string ⟨#[]⟩, .int .i64 0]
  obtain ⟨d1, hd1, hrow1⟩ := rowTs
  go_enter Try.func8, Try.ntmps8
  go_upto_region 2 with fail
  have T0 : TMs w (((w.alloc (.cells #[.slice a xs.length c, .slice a' ys.length c', .int .i64 md, .int .i64 li, .string ho, .string pr, .int .i64 ea] 24)).alloc (.cells #[.slice none 0 0, .slice none 0 0, .int .i64 0, .int .i64 0, .string ⟨#[]⟩, .string ⟨#[]⟩, .int .i64 0] 27)).alloc (.cells #[.slice none 0 0, .slice none 0 0, .int .i64 0, .int .i64 0, .string ⟨#[]⟩, .string ⟨#[]⟩, .int .i64 0] 27)) 24 27 [.slice a xs.length c, .slice a' ys.length c', .int .i64 md, .int .i64 li, .string ho, .string pr, .int .i64 ea] [.slice none 0 0, .slice none 0 0, .int .i64 0, .int .i64 0, .string ⟨#[]⟩, .string ⟨#[]⟩, .int .i64 0] [.slice none 0 0, .slice none 0 0, .int .i64 0, .int .i64 0, .string ⟨#[]⟩, .string ⟨#[]⟩, .int .i64 0] := T0
  generalize ((w.alloc (.cells #[.slice a xs.length c, .slice a' ys.length c', .int .i64 md, .int .i64 li, .string ho, .string pr, .int .i64 ea] 24)).alloc (.cells #[.slice none 0 0, .slice none 0 0, .int .i64 0, .int .i64 0, .string ⟨#[]⟩, .string ⟨#[]⟩, .int .i64 0] 27)).alloc (.cells #[.slice none 0 0, .slice none 0 0, .int .i64 0, .int .i64 0, .string ⟨#[]⟩, .string ⟨#[]⟩, .int .i64 0] 27) = W1 at *
  have qS : W1.cell? ⟨w.heap.size, 0, none⟩ = some (.slice a xs.length c) := T0.S.cell 0
  have TB := hide (toByteS_any W1 g a c xs (hr.up T0.N) hn)
  go_wp2_with fail
  refine TB.out.mono ?_
  rintro e V ⟨rfl, B, m⟩
  have lt := T0.T.lt
  have T2 := T0.up m
  have lv := B.lt
  clear TB qS T0 m
  obtain ⟨G, hG⟩ : ∃ G, W1.heap.size = G := ⟨_, rfl⟩
  rw [hG] at B lt lv ⊢
  clear hG
  have qT : V.cell? ⟨w.heap.size + 1 + 1, 0, none⟩ = some (.slice none 0 0) := T2.T.cell 0
  have qF := T2.T.free 0
  have T3 : TMs w (V.setCell ⟨w.heap.size + 1 + 1, 0, none⟩ (.slice (some ⟨G, 0, none⟩) xs.length xs.length)) 24 27 [.slice a xs.length c, .slice a' ys.length c', .int .i64 md, .int .i64 li, .string ho, .string pr, .int .i64 ea] [.slice none 0 0, .slice none 0 0, .int .i64 0, .int .i64 0, .string ⟨#[]⟩, .string ⟨#[]⟩, .int .i64 0] [.slice (some ⟨G, 0, none⟩) xs.length xs.length, .slice none 0 0, .int .i64 0, .int .i64 0, .string ⟨#[]⟩, .string ⟨#[]⟩, .int .i64 0] := T2.set 0 _
  have B2 : Blk (V.setCell ⟨w.heap.size + 1 + 1, 0, none⟩ (.slice (some ⟨G, 0, none⟩) xs.length xs.length)) G .u8 xs := B.of_block ((Only.setCell V (w.heap.size + 1 + 1) 0 _).block G (by omega))
  have sv : V.heap.size ≤ (V.setCell ⟨w.heap.size + 1 + 1, 0, none⟩ (.slice (some ⟨G, 0, none⟩) xs.length xs.length)).heap.size := Nat.le_of_eq (Only.setCell V (w.heap.size + 1 + 1) 0 _).size.symm
  go_upto_region 3 with fail
  clear T2 B qT qF
  generalize V.setCell ⟨w.heap.size + 1 + 1, 0, none⟩ (.slice (some ⟨G, 0, none⟩) xs.length xs.length) = W3 at *
  have qS : W3.cell? ⟨w.heap.size, 1, none⟩ = some (.slice a' ys.length c') := T3.S.cell 1
  have TB := hide (toByteS_any W3 g' a' c' ys (hr'.up T3.N) hn')
  go_wp2_with fail
  refine TB.out.mono ?_
  rintro e V' ⟨rfl, B', m⟩
  have lt' := T3.T.lt
  have T4 := T3.up m
  have B3 := B2.up m
  clear TB qS T3 m B2
  obtain ⟨G', hG'⟩ : ∃ G', W3.heap.size = G' := ⟨_, rfl⟩
  rw [hG'] at B' lt' sv ⊢
  clear hG'
  have qT : V'.cell? ⟨w.heap.size + 1 + 1, 1, none⟩ = some (.slice none 0 0) := T4.T.cell 1
  have qF := T4.T.free 1
  go_upto_region 4 with fail
  have T5 : TMs w (V'.setCell ⟨w.heap.size + 1 + 1, 1, none⟩ (.slice (some ⟨G', 0, none⟩) ys.length ys.length)) 24 27 [.slice a xs.length c, .slice a' ys.length c', .int .i64 md, .int .i64 li, .string ho, .string pr, .int .i64 ea] [.slice none 0 0, .slice none 0 0, .int .i64 0, .int .i64 0, .string ⟨#[]⟩, .string ⟨#[]⟩, .int .i64 0] [.slice (some ⟨G, 0, none⟩) xs.length xs.length, .slice (some ⟨G', 0, none⟩) ys.length ys.length, .int .i64 0, .int .i64 0, .string ⟨#[]⟩, .string ⟨#[]⟩, .int .i64 0] := T4.set 1 _
  have B4 : Blk (V'.setCell ⟨w.heap.size + 1 + 1, 1, none⟩ (.slice (some ⟨G', 0, none⟩) ys.length ys.length)) G .u8 xs := B3.of_block ((Only.setCell V' (w.heap.size + 1 + 1) 1 _).block G (by omega))
  have B4' : Blk (V'.setCell ⟨w.heap.size + 1 + 1, 1, none⟩ (.slice (some ⟨G', 0, none⟩) ys.length ys.length)) G' .u8 ys := B'.of_block ((Only.setCell V' (w.heap.size + 1 + 1) 1 _).block G' (by omega))
  clear T4 B' B3 qT qF
  generalize V'.setCell ⟨w.heap.size + 1 + 1, 1, none⟩ (.slice (some ⟨G', 0, none⟩) ys.length ys.length) = X2 at *
  have q0 : X2.cell? ⟨w.heap.size, 2, none⟩ = some (.int .i64 md) := T5.S.cell 2
  have q1 : X2.cell? ⟨w.heap.size + 1 + 1, 2, none⟩ = some (.int .i64 0) := T5.T.cell 2
  have q2 := T5.T.free 2
  have T6 : TMs w (X2.setCell ⟨w.heap.size + 1 + 1, 2, none⟩ (.int .i64 md)) 24 27 [.slice a xs.length c, .slice a' ys.length c', .int .i64 md, .int .i64 li, .string ho, .string pr, .int .i64 ea] [.slice none 0 0, .slice none 0 0, .int .i64 0, .int .i64 0, .string ⟨#[]⟩, .string ⟨#[]⟩, .int .i64 0] [.slice (some ⟨G, 0, none⟩) xs.length xs.length, .slice (some ⟨G', 0, none⟩) ys.length ys.length, .int .i64 md, .int .i64 0, .string ⟨#[]⟩, .string ⟨#[]⟩, .int .i64 0] := T5.set 2 _
  have C4 : Blk (X2.setCell ⟨w.heap.size + 1 + 1, 2, none⟩ (.int .i64 md)) G .u8 xs := B4.of_block ((Only.setCell X2 (w.heap.size + 1 + 1) 2 _).block G (by omega))
  have C4' : Blk (X2.setCell ⟨w.heap.size + 1 + 1, 2, none⟩ (.int .i64 md)) G' .u8 ys := B4'.of_block ((Only.setCell X2 (w.heap.size + 1 + 1) 2 _).block G' (by omega))
  go_upto_region 5 with fail
  clear q0 q1 q2 T5 B4 B4'
  generalize X2.setCell ⟨w.heap.size + 1 + 1, 2, none⟩ (.int .i64 md) = X3 at *
  have T5 := T6
  have B4 := C4
  have B4' := C4'
  clear T6 C4 C4'
  have q0 : X3.cell? ⟨w.heap.size, 3, none⟩ = some (.int .i64 li) := T5.S.cell 3
  have q1 : X3.cell? ⟨w.heap.size + 1 + 1, 3, none⟩ = some (.int .i64 0) := T5.T.cell 3
  have q2 := T5.T.free 3
  have T6 : TMs w (X3.setCell ⟨w.heap.size + 1 + 1, 3, none⟩ (.int .i64 li)) 24 27 [.slice a xs.length c, .slice a' ys.length c', .int .i64 md, .int .i64 li, .string ho, .string pr, .int .i64 ea] [.slice none 0 0, .slice none 0 0, .int .i64 0, .int .i64 0, .string ⟨#[]⟩, .string ⟨#[]⟩, .int .i64 0] [.slice (some ⟨G, 0, none⟩) xs.length xs.length, .slice (some ⟨G', 0, none⟩) ys.length ys.length, .int .i64 md, .int .i64 li, .string ⟨#[]⟩, .string ⟨#[]⟩, .int .i64 0] := T5.set 3 _
  have C4 : Blk (X3.setCell ⟨w.heap.size + 1 + 1, 3, none⟩ (.int .i64 li)) G .u8 xs := B4.of_block ((Only.setCell X3 (w.heap.size + 1 + 1) 3 _).block G (by omega))
  have C4' : Blk (X3.setCell ⟨w.heap.size + 1 + 1, 3, none⟩ (.int .i64 li)) G' .u8 ys := B4'.of_block ((Only.setCell X3 (w.heap.size + 1 + 1) 3 _).block G' (by omega))
  go_upto_region 6 with fail
  clear q0 q1 q2 T5 B4 B4'
  generalize X3.setCell ⟨w.heap.size + 1 + 1, 3, none⟩ (.int .i64 li) = X4 at *
  have T5 := T6
  have B4 := C4
  have B4' := C4'
  clear T6 C4 C4'
  have q0 : X4.cell? ⟨w.heap.size, 4, none⟩ = some (.string ho) := T5.S.cell 4
  have q1 : X4.cell? ⟨w.heap.size + 1 + 1, 4, none⟩ = some (.string ⟨#[]⟩) := T5.T.cell 4
  have q2 := T5.T.free 4
  have T6 : TMs w (X4.setCell ⟨w.heap.size + 1 + 1, 4, none⟩ (.string ho)) 24 27 [.slice a xs.length c, .slice a' ys.length c', .int .i64 md, .int .i64 li, .string ho, .string pr, .int .i64 ea] [.slice none 0 0, .slice none 0 0, .int .i64 0, .int .i64 0, .string ⟨#[]⟩, .string ⟨#[]⟩, .int .i64 0] [.slice (some ⟨G, 0, none⟩) xs.length xs.length, .slice (some ⟨G', 0, none⟩) ys.length ys.length, .int .i64 md, .int .i64 li, .string ho, .string ⟨#[]⟩, .int .i64 0] := T5.set 4 _
  have C4 : Blk (X4.setCell ⟨w.heap.size + 1 + 1, 4, none⟩ (.string ho)) G .u8 xs := B4.of_block ((Only.setCell X4 (w.heap.size + 1 + 1) 4 _).block G (by omega))
  have C4' : Blk (X4.setCell ⟨w.heap.size + 1 + 1, 4, none⟩ (.string ho)) G' .u8 ys := B4'.of_block ((Only.setCell X4 (w.heap.size + 1 + 1) 4 _).block G' (by omega))
  go_upto_region 7 with fail
  clear q0 q1 q2 T5 B4 B4'
  generalize X4.setCell ⟨w.heap.size + 1 + 1, 4, none⟩ (.string ho) = X5 at *
  have T5 := T6
  have B4 := C4
  have B4' := C4'
  clear T6 C4 C4'
  have q0 : X5.cell? ⟨w.heap.size, 5, none⟩ = some (.string pr) := T5.S.cell 5
  have q1 : X5.cell? ⟨w.heap.size + 1 + 1, 5, none⟩ = some (.string ⟨#[]⟩) := T5.T.cell 5
  have q2 := T5.T.free 5
  have T6 : TMs w (X5.setCell ⟨w.heap.size + 1 + 1, 5, none⟩ (.string pr)) 24 27 [.slice a xs.length c, .slice a' ys.length c', .int .i64 md, .int .i64 li, .string ho, .string pr, .int .i64 ea] [.slice none 0 0, .slice none 0 0, .int .i64 0, .int .i64 0, .string ⟨#[]⟩, .string ⟨#[]⟩, .int .i64 0] [.slice (some ⟨G, 0, none⟩) xs.length xs.length, .slice (some ⟨G', 0, none⟩) ys.length ys.length, .int .i64 md, .int .i64 li, .string ho, .string pr, .int .i64 0] := T5.set 5 _
  have C4 : Blk (X5.setCell ⟨w.heap.size + 1 + 1, 5, none⟩ (.string pr)) G .u8 xs := B4.of_block ((Only.setCell X5 (w.heap.size + 1 + 1) 5 _).block G (by omega))
  have C4' : Blk (X5.setCell ⟨w.heap.size + 1 + 1, 5, none⟩ (.string pr)) G' .u8 ys := B4'.of_block ((Only.setCell X5 (w.heap.size + 1 + 1) 5 _).block G' (by omega))
  go_upto_region 8 with fail
  clear q0 q1 q2 T5 B4 B4'
  generalize X5.setCell ⟨w.heap.size + 1 + 1, 5, none⟩ (.string pr) = X6 at *
  have T5 := T6
  have B4 := C4
  have B4' := C4'
  clear T6 C4 C4'
  have q0 : X6.cell? ⟨w.heap.size, 6, none⟩ = some (.int .i64 ea) := T5.S.cell 6
  have q1 : X6.cell? ⟨w.heap.size + 1 + 1, 6, none⟩ = some (.int .i64 0) := T5.T.cell 6
  have q2 := T5.T.free 6
  have T6 : TMs w (X6.setCell ⟨w.heap.size + 1 + 1, 6, none⟩ (.int .i64 ea)) 24 27 [.slice a xs.length c, .slice a' ys.length c', .int .i64 md, .int .i64 li, .string ho, .string pr, .int .i64 ea] [.slice none 0 0, .slice none 0 0, .int .i64 0, .int .i64 0, .string ⟨#[]⟩, .string ⟨#[]⟩, .int .i64 0] [.slice (some ⟨G, 0, none⟩) xs.length xs.length, .slice (some ⟨G', 0, none⟩) ys.length ys.length, .int .i64 md, .int .i64 li, .string ho, .string pr, .int .i64 ea] := T5.set 6 _
  have C4 : Blk (X6.setCell ⟨w.heap.size + 1 + 1, 6, none⟩ (.int .i64 ea)) G .u8 xs := B4.of_block ((Only.setCell X6 (w.heap.size + 1 + 1) 6 _).block G (by omega))
  have C4' : Blk (X6.setCell ⟨w.heap.size + 1 + 1, 6, none⟩ (.int .i64 ea)) G' .u8 ys := B4'.of_block ((Only.setCell X6 (w.heap.size + 1 + 1) 6 _).block G' (by omega))
  go_upto_region 9 with fail
  clear q0 q1 q2 T5 B4 B4'
  generalize X6.setCell ⟨w.heap.size + 1 + 1, 6, none⟩ (.int .i64 ea) = X7 at *
  have T5 := T6
  have B4 := C4
  have B4' := C4'
  clear T6 C4 C4'
  have RG := T5.T.rangeG
  have TH := T5.U.thereG
  have RR := World.rangeAt_setCells_same X7 (w.heap.size + 1) 0 [.slice (some ⟨G, 0, none⟩) xs.length xs.length, .slice (some ⟨G', 0, none⟩) ys.length ys.length, .int .i64 md, .int .i64 li, .string ho, .string pr, .int .i64 ea] TH
  have OQ := only_setG X7 (w.heap.size + 1) [.slice (some ⟨G, 0, none⟩) xs.length xs.length, .slice (some ⟨G', 0, none⟩) ys.length ys.length, .int .i64 md, .int .i64 li, .string ho, .string pr, .int .i64 ea] 0
  have N8 : Hid (Below w.heap.size w (X7.setCells (w.heap.size + 1) 0 [.slice (some ⟨G, 0, none⟩) xs.length xs.length, .slice (some ⟨G', 0, none⟩) ys.length ys.length, .int .i64 md, .int .i64 li, .string ho, .string pr, .int .i64 ea])) := T5.N.trans (OQ.below (by omega))
  have B5 := hide (B4.of_block (OQ.block G (by omega)))
  have B6 := hide (B4'.of_block (OQ.block G' (by omega)))
  have ON := oneTs md li ho pr ea (some ⟨G, 0, none⟩) (some ⟨G', 0, none⟩) xs.length xs.length ys.length ys.length
  clear OQ T5 B4 B4'
  go_wp2_with (first
    | (refine wpList_load_mid rfl 27 (.tmp 3) rfl (w.heap.size + 1 + 1) 0 rfl [.slice (some ⟨G, 0, none⟩) xs.length xs.length, .slice (some ⟨G', 0, none⟩) ys.length ys.length, .int .i64 md, .int .i64 li, .string ho, .string pr, .int .i64 ea] d1 RG hd1 hrow1 iTs ?_)
    | (refine wpList_store_mid rfl 27 (.tmp 2) (.tmp 27) rfl (w.heap.size + 1) 0 #[.slice (some ⟨G, 0, none⟩) xs.length xs.length, .slice (some ⟨G', 0, none⟩) ys.length ys.length, .int .i64 md, .int .i64 li, .string ho, .string pr, .int .i64 ea] rfl rfl ?hth ?hin ?hon ?_))
  case hth => exact TH
  case hin => exact iTs
  case hon => exact ON
  exact bodyPost_ret (v := .agg #[.slice (some ⟨G, 0, none⟩) xs.length xs.length, .slice (some ⟨G', 0, none⟩) ys.length ys.length, .int .i64 md, .int .i64 li, .string ho, .string pr, .int .i64 ea]) (results_cellG Try.results8 _ _ (w.heap.size + 1) _ d1 rfl RR hd1 hrow1 iTs) rfl ⟨G, G', rfl, B5.out, B6.out, by omega, by omega, N8.out⟩
set_option maxHeartbeats 2000000 in
theorem eqTicketState_same (w : World) (md li : Int) (ho pr : ByteArray) (ea : Int) (g g2 : Nat) (a a2 : Option Addr) (c c2 : Nat) (xs : List Int) (h1 : Rd w g a .u8 xs) (h2 : Rd w g2 a2 .u8 xs) (hn : xs.length ≤ 1048576) (g' g2' : Nat) (a' a2' : Option Addr) (c' c2' : Nat) (ys : List Int) (h1' : Rd w g' a' .u8 ys) (h2' : Rd w g2' a2' .u8 ys) (hn' : ys.length ≤ 1048576) :
    Calls Try.prog 10 #[.agg #[.slice a xs.length c, .slice a' ys.length c', .int .i64 md, .int .i64 li, .string ho, .string pr, .int .i64 ea], .agg #[.slice a2 xs.length c2, .slice a2' ys.length c2', .int .i64 md, .int .i64 li, .string ho, .string pr, .int .i64 ea]] w fun e w' => e = .returned (.bool true) ∧ Below w.heap.size w w' := by
  have n1 : Below w.heap.size w (w.alloc (.cells #[.slice a xs.length c, .slice a' ys.length c', .int .i64 md, .int .i64 li, .string ho, .string pr, .int .i64 ea] 27)) := (Below.refl _ _).alloc (Nat.le_refl _) _
  have n2 : Below (w.alloc (.cells #[.slice a xs.length c, .slice a' ys.length c', .int .i64 md, .int .i64 li, .string ho, .string pr, .int .i64 ea] 27)).heap.size (w.alloc (.cells #[.slice a xs.length c, .slice a' ys.length c', .int .i64 md, .int .i64 li, .string ho, .string pr, .int .i64 ea] 27)) ((w.alloc (.cells #[.slice a xs.length c, .slice a' ys.length c', .int .i64 md, .int .i64 li, .string ho, .string pr, .int .i64 ea] 27)).alloc (.cells #[.slice a2 xs.length c2, .slice a2' ys.length c2', .int .i64 md, .int .i64 li, .string ho, .string pr, .int .i64 ea] 27)) := (Below.refl _ _).alloc (Nat.le_refl _) _
  have P0 : RwC (w.alloc (.cells #[.slice a xs.length c, .slice a' ys.length c', .int .i64 md, .int .i64 li, .string ho, .string pr, .int .i64 ea] 27)) w.heap.size [.slice a xs.length c, .slice a' ys.length c', .int .i64 md, .int .i64 li, .string ho, .string pr, .int .i64 ea] 27 := RwC.new w _ _
  have P1 : RwC ((w.alloc (.cells #[.slice a xs.length c, .slice a' ys.length c', .int .i64 md, .int .i64 li, .string ho, .string pr, .int .i64 ea] 27)).alloc (.cells #[.slice a2 xs.length c2, .slice a2' ys.length c2', .int .i64 md, .int .i64 li, .string ho, .string pr, .int .i64 ea] 27)) (w.heap.size + 1) [.slice a2 xs.length c2, .slice a2' ys.length c2', .int .i64 md, .int .i64 li, .string ho, .string pr, .int .i64 ea] 27 := by have := RwC.new (w.alloc (.cells #[.slice a xs.length c, .slice a' ys.length c', .int .i64 md, .int .i64 li, .string ho, .string pr, .int .i64 ea] 27)) [.slice a2 xs.length c2, .slice a2' ys.length c2', .int .i64 md, .int .i64 li, .string ho, .string pr, .int .i64 ea] 27; simpa using this
  have N := nxt n1 n2
  replace P0 := P0.up n2
  have E := hide (fun W (n : Below w.heap.size w W) => eqByteS_same W g g2 a a2 c c2 xs (h1.up n) (h2.up n) hn)
  have E' := hide (fun W (n : Below w.heap.size w W) => eqByteS_same W g' g2' a' a2' c' c2' ys (h1'.up n) (h2'.up n) hn')
  clear n1 n2 h1 h2 h1' h2'
  go_enter Try.func10, Try.ntmps10
  go_wp2_with fail
  generalize (w.alloc (.cells #[.slice a xs.length c, .slice a' ys.length c', .int .i64 md, .int .i64 li, .string ho, .string pr, .int .i64 ea] 27)).alloc (.cells #[.slice a2 xs.length c2, .slice a2' ys.length c2', .int .i64 md, .int .i64 li, .string ho, .string pr, .int .i64 ea] 27) = wa at *
  refine (E.out _ N).mono ?_
  rintro e w2 ⟨rfl, m⟩
  replace N := nxt N m
  have x0 := (P0.up m).c1
  have x1 := (P1.up m).c1
  replace P0 := P0.up m
  replace P1 := P1.up m
  go_wp2_with fail
  refine (E'.out _ N).mono ?_
  rintro e w3 ⟨rfl, m'⟩
  replace P0 := P0.up m'
  replace P1 := P1.up m'
  clear x0 x1
  have p2 : w3.cell? ⟨w.heap.size, 2, none⟩ = some (.int .i64 md) := P0.cell 2
  have r2 : w3.cell? ⟨w.heap.size + 1, 2, none⟩ = some (.int .i64 md) := P1.cell 2
  have p3 : w3.cell? ⟨w.heap.size, 3, none⟩ = some (.int .i64 li) := P0.cell 3
  have r3 : w3.cell? ⟨w.heap.size + 1, 3, none⟩ = some (.int .i64 li) := P1.cell 3
  have p4 : w3.cell? ⟨w.heap.size, 4, none⟩ = some (.string ho) := P0.cell 4
  have r4 : w3.cell? ⟨w.heap.size + 1, 4, none⟩ = some (.string ho) := P1.cell 4
  have p5 : w3.cell? ⟨w.heap.size, 5, none⟩ = some (.string pr) := P0.cell 5
  have r5 : w3.cell? ⟨w.heap.size + 1, 5, none⟩ = some (.string pr) := P1.cell 5
  have p6 : w3.cell? ⟨w.heap.size, 6, none⟩ = some (.int .i64 ea) := P0.cell 6
  have r6 : w3.cell? ⟨w.heap.size + 1, 6, none⟩ = some (.int .i64 ea) := P1.cell 6
  go_wp2
  go_ret
  exact ⟨rfl, nxt N m'⟩
set_option maxHeartbeats 1000000 in
theorem markTicketState_any (w : World) (md li : Int) (ho pr : ByteArray) (ea : Int) (g : Nat) (a : Option Addr) (c : Nat) (xs : List Int) (g' : Nat) (a' : Option Addr) (c' : Nat) (ys : List Int) (m : Int) (ha : Own w g a .u8 xs) (ha' : Own w g' a' .u8 ys) (hn : xs.length ≤ 1048576) (hn' : ys.length ≤ 1048576) (hne : g ≠ g' ∧ g < w.heap.size ∧ g' < w.heap.size) (k0 : 0 ≤ m) (k1 : m ≤ 1000000000) :
    Calls Try.prog 14 #[.agg #[.slice a xs.length c, .slice a' ys.length c', .int .i64 md, .int .i64 li, .string ho, .string pr, .int .i64 ea], .int .i64 m] w fun e w' => e = .returned (.int .i64 (m + (xs.length : Int) + (ys.length : Int))) ∧ Own w' g a .u8 (marks m xs.length) ∧ Own w' g' a' .u8 (marks (m + (xs.length : Int)) ys.length) ∧ Tch [g, g'] w w' := by
  have n1 : Below w.heap.size w (w.alloc (.cells #[.slice a xs.length c, .slice a' ys.length c', .int .i64 md, .int .i64 li, .string ho, .string pr, .int .i64 ea] 27)) := (Below.refl _ _).alloc (Nat.le_refl _) _
  have P0 : RwC (w.alloc (.cells #[.slice a xs.length c, .slice a' ys.length c', .int .i64 md, .int .i64 li, .string ho, .string pr, .int .i64 ea] 27)) w.heap.size [.slice a xs.length c, .slice a' ys.length c', .int .i64 md, .int .i64 li, .string ho, .string pr, .int .i64 ea] 27 := RwC.new w _ _
  have M := hide (markByteS_any (w.alloc (.cells #[.slice a xs.length c, .slice a' ys.length c', .int .i64 md, .int .i64 li, .string ho, .string pr, .int .i64 ea] 27)) g a c xs m (ha.up n1) hn k0 (by omega))
  have O' := ha'.up n1
  clear ha ha'
  have HN := hide hne
  clear hne
  go_enter Try.func14, Try.ntmps14
  go_wp2_with fail
  generalize w.alloc (.cells #[.slice a xs.length c, .slice a' ys.length c', .int .i64 md, .int .i64 li, .string ho, .string pr, .int .i64 ea] 27) = wa at *
  refine M.out.mono ?_
  rintro e w2 ⟨rfl, A1, O⟩
  have P1 := P0.onl O (by have := HN.out; omega)
  have O2 := O'.only O (fun _ => by have := HN.out; omega)
  have M2 := hide (markByteS_any w2 g' a' c' ys (m + (xs.length : Int)) O2 hn' (by omega) (by omega))
  have x1 := P1.c1
  have A1 := hide A1
  clear M O' O2 P0 P1
  go_wp2_with fail
  refine M2.out.mono ?_
  rintro e w3 ⟨rfl, A2, O3⟩
  have A1' := hide (A1.out.only O3 (fun _ => by have := HN.out; omega))
  have A2 := hide A2
  go_wp2
  go_ret
  exact ⟨rfl, A1'.out, A2.out, (((Tch.of_below n1).trans (Tch.of_only O)).trans (Tch.of_only O3)).mono (T := [g, g']) (S := [] ++ [g] ++ [g']) (by simp)⟩
set_option maxHeartbeats 1000000 in
theorem heldTicketState_any (w : World) (md li : Int) (ho pr : ByteArray) (ea : Int) (g : Nat) (a : Option Addr) (c n : Nat) (g' : Nat) (a' : Option Addr) (c' n' : Nat) (m : Int) (ha : Rd w g a .u8 (marks m n)) (ha' : Rd w g' a' .u8 (marks (m + (n : Int)) n')) (hn : n ≤ 1048576) (hn' : n' ≤ 1048576) (k0 : 0 ≤ m) (k1 : m ≤ 1000000000) :
    Calls Try.prog 41 #[.agg #[.slice a n c, .slice a' n' c', .int .i64 md, .int .i64 li, .string ho, .string pr, .int .i64 ea], .int .i64 m] w fun e w' => e = .returned (.int .i64 (m + (n : Int) + (n' : Int))) ∧ Below w.heap.size w w' := by
  have n1 : Below w.heap.size w (w.alloc (.cells #[.slice a n c, .slice a' n' c', .int .i64 md, .int .i64 li, .string ho, .string pr, .int .i64 ea] 27)) := (Below.refl _ _).alloc (Nat.le_refl _) _
  have P0 : RwC (w.alloc (.cells #[.slice a n c, .slice a' n' c', .int .i64 md, .int .i64 li, .string ho, .string pr, .int .i64 ea] 27)) w.heap.size [.slice a n c, .slice a' n' c', .int .i64 md, .int .i64 li, .string ho, .string pr, .int .i64 ea] 27 := RwC.new w _ _
  have M := hide (heldByteS_any (w.alloc (.cells #[.slice a n c, .slice a' n' c', .int .i64 md, .int .i64 li, .string ho, .string pr, .int .i64 ea] 27)) g a c n m (ha.up n1) hn k0 (by omega))
  have M2 := hide (heldByteS_any (w.alloc (.cells #[.slice a n c, .slice a' n' c', .int .i64 md, .int .i64 li, .string ho, .string pr, .int .i64 ea] 27)) g' a' c' n' (m + (n : Int)) (ha'.up n1) hn' (by omega) (by omega))
  have t1 : decide (m + (n : Int) < 0) = false := by simp; omega
  have t2 : decide (m + (n : Int) + (n' : Int) < 0) = false := by simp; omega
  clear ha ha'
  go_enter Try.func41, Try.ntmps41
  go_wp2_with fail
  generalize w.alloc (.cells #[.slice a n c, .slice a' n' c', .int .i64 md, .int .i64 li, .string ho, .string pr, .int .i64 ea] 27) = wa at *
  refine M.out.mono ?_
  rintro e w2 ⟨rfl, h⟩
  have h := h.symm
  subst h
  have x1 := P0.c1
  go_wp2_with fail
  refine M2.out.mono ?_
  rintro e w2 ⟨rfl, h⟩
  have h := h.symm
  subst h
  go_wp2
  go_ret
  exact ⟨rfl, n1⟩
end Go.Proofs.Ytjdbnlbmhnpifaa
