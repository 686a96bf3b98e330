
/-
  The laws' helpers on a record: counted, copied, held against each other, marked.
-/
import Derived.Test.YtcempddbcfigbaaDoorTcH
import Derived.Test.YtcempddbcfigbaaDoorHelp
import Derived.Test.YtcempddbcfigbaaDoorSzR
import Derived.Deep.DeepCutAuto
namespace Go.Proofs.YtcempddbcfigbaaDoor
set_option maxRecDepth 100000
open Go Go.RowKit

theorem szRecord_any (w : World) (k : Int) (a : Option Addr) (n c : Nat) (left : Int) (hn : n < 9223372036854775808) (hl : 0 ≤ left) (hm : left ≤ 1048576) :
    Calls Tryd.prog 6 #[.agg #[.int .i64 k, .slice a n c], .int .i64 left] w fun e w' => e = .returned (.int .i64 (if left < (n : Int) then -1 else left - (n : Int))) ∧ Below w.heap.size w w' := by
  have n1 : Below w.heap.size w (w.alloc (.cells #[.int .i64 k, .slice a n c] 24)) := (Below.refl _ _).alloc (Nat.le_refl _) _
  have S1 := fun W => szByteR W a n c left hn (by omega) (by omega)
  by_cases h : left < (n : Int)
  · rw [if_pos h] at S1 ⊢
    go_enter Tryd.func6, Tryd.ntmps6
    go_wp2_with fail
    refine (S1 _).mono ?_
    rintro e w2 ⟨rfl, rfl⟩
    go_wp2
    go_ret
    exact ⟨rfl, n1⟩
  · have t1 : decide (left - (n : Int) < 0) = false := by simp; omega
    rw [if_neg h] at S1 ⊢
    go_enter Tryd.func6, Tryd.ntmps6
    go_wp2_with fail
    refine (S1 _).mono ?_
    rintro e w2 ⟨rfl, rfl⟩
    go_wp2
    go_ret
    exact ⟨rfl, n1⟩
theorem iRc : (Tryd.prog.info? 27).map (·.size) = some 2 := by kernel_rfl
theorem rowRc : ∃ d, Tryd.prog.underlying 27 = some d ∧ d.isRow = true := ⟨_, Tryd.underlying27, rfl⟩
theorem oneRc (k : Int) (a : Option Addr) (n c : Nat) : ([.int .i64 k, .slice a n c] : List Value).toArray.all (·.oneCell') = true := all_oneCell_toArray fun v hv => by
  simp only [List.mem_cons, List.not_mem_nil, or_false] at hv
  rcases hv with rfl | rfl
  all_goals rfl
set_option maxHeartbeats 2000000 in
theorem toRecord_any (w : World) (k : Int) (g : Nat) (a : Option Addr) (c : Nat) (xs : List Int) (hr : Rd w g a .u8 xs) (hn : xs.length ≤ 1048576) :
    Calls Tryd.prog 8 #[.agg #[.int .i64 k, .slice a xs.length c]] w fun e w' => ∃ p, e = .returned (.agg #[.int .i64 k, .slice (some ⟨p, 0, none⟩) xs.length xs.length]) ∧ Blk w' p .u8 xs ∧ w.heap.size ≤ p ∧ Below w.heap.size w w' := by
  have T0 := TMs.new w 24 27 [.int .i64 k, .slice a xs.length c] [.int .i64 0, .slice none 0 0]
  obtain ⟨d1, hd1, hrow1⟩ := rowRc
  go_enter Tryd.func8, Tryd.ntmps8
  go_upto_region 2 with fail
  have T0 : TMs w (((w.alloc (.cells #[.int .i64 k, .slice a xs.length c] 24)).alloc (.cells #[.int .i64 0, .slice none 0 0] 27)).alloc (.cells #[.int .i64 0, .slice none 0 0] 27)) 24 27 [.int .i64 k, .slice a xs.length c] [.int .i64 0, .slice none 0 0] [.int .i64 0, .slice none 0 0] := T0
  generalize ((w.alloc (.cells #[.int .i64 k, .slice a xs.length c] 24)).alloc (.cells #[.int .i64 0, .slice none 0 0] 27)).alloc (.cells #[.int .i64 0, .slice none 0 0] 27) = W0 at *
  have q0 : W0.cell? ⟨w.heap.size, 0, none⟩ = some (.int .i64 k) := T0.S.cell 0
  have q1 : W0.cell? ⟨w.heap.size + 1 + 1, 0, none⟩ = some (.int .i64 0) := T0.T.cell 0
  have q2 := T0.T.free 0
  have T1 : TMs w (W0.setCell ⟨w.heap.size + 1 + 1, 0, none⟩ (.int .i64 k)) 24 27 [.int .i64 k, .slice a xs.length c] [.int .i64 0, .slice none 0 0] [.int .i64 k, .slice none 0 0] := T0.set 0 _
  go_upto_region 3 with fail
  clear q0 q1 q2 T0
  generalize W0.setCell ⟨w.heap.size + 1 + 1, 0, none⟩ (.int .i64 k) = W1 at *
  have qS : W1.cell? ⟨w.heap.size, 1, none⟩ = some (.slice a xs.length c) := T1.S.cell 1
  have TB := hide (toByteS_any W1 g a c xs (hr.up T1.N) hn)
  go_wp2_with fail
  refine TB.out.mono ?_
  rintro e V ⟨rfl, B, m⟩
  have lt := T1.T.lt
  have T2 := T1.up m
  clear TB qS T1 m
  obtain ⟨G, hG⟩ : ∃ G, W1.heap.size = G := ⟨_, rfl⟩
  rw [hG] at B lt ⊢
  clear hG
  have qT : V.cell? ⟨w.heap.size + 1 + 1, 1, none⟩ = some (.slice none 0 0) := T2.T.cell 1
  have qF := T2.T.free 1
  go_upto_region 4 with fail
  have T3 : TMs w (V.setCell ⟨w.heap.size + 1 + 1, 1, none⟩ (.slice (some ⟨G, 0, none⟩) xs.length xs.length)) 24 27 [.int .i64 k, .slice a xs.length c] [.int .i64 0, .slice none 0 0] [.int .i64 k, .slice (some ⟨G, 0, none⟩) xs.length xs.length] := T2.set 1 _
  have B2 : Blk (V.setCell ⟨w.heap.size + 1 + 1, 1, none⟩ (.slice (some ⟨G, 0, none⟩) xs.length xs.length)) G .u8 xs := B.of_block ((Only.setCell V (w.heap.size + 1 + 1) 1 _).block G (by omega))
  clear T2 B qT qF
  generalize V.setCell ⟨w.heap.size + 1 + 1, 1, none⟩ (.slice (some ⟨G, 0, none⟩) xs.length xs.length) = W2 at *
  have RG := T3.T.rangeG
  have TH := T3.U.thereG
  have RR := World.rangeAt_setCells_same W2 (w.heap.size + 1) 0 [.int .i64 k, .slice (some ⟨G, 0, none⟩) xs.length xs.length] TH
  have OQ := only_setG W2 (w.heap.size + 1) [.int .i64 k, .slice (some ⟨G, 0, none⟩) xs.length xs.length] 0
  have N8 : Hid (Below w.heap.size w (W2.setCells (w.heap.size + 1) 0 [.int .i64 k, .slice (some ⟨G, 0, none⟩) xs.length xs.length])) := T3.N.trans (OQ.below (by omega))
  have B3 := hide (B2.of_block (OQ.block G (by omega)))
  have ON := oneRc k (some ⟨G, 0, none⟩) xs.length xs.length
  clear OQ T3 B2
  go_wp2_with (first
    | (refine wpList_load_mid rfl 27 (.tmp 3) rfl (w.heap.size + 1 + 1) 0 rfl [.int .i64 k, .slice (some ⟨G, 0, none⟩) xs.length xs.length] d1 RG hd1 hrow1 iRc ?_)
    | (refine wpList_store_mid rfl 27 (.tmp 2) (.tmp 11) rfl (w.heap.size + 1) 0 #[.int .i64 k, .slice (some ⟨G, 0, none⟩) xs.length xs.length] rfl rfl ?hth ?hin ?hon ?_))
  case hth => exact TH
  case hin => exact iRc
  case hon => exact ON
  exact bodyPost_ret (v := .agg #[.int .i64 k, .slice (some ⟨G, 0, none⟩) xs.length xs.length]) (results_cellG Tryd.results8 _ _ (w.heap.size + 1) _ d1 rfl RR hd1 hrow1 iRc) rfl ⟨G, rfl, B3.out, by omega, N8.out⟩
set_option maxHeartbeats 1000000 in
theorem eqRecord_same (w : World) (k : Int) (g g' : Nat) (a a' : Option Addr) (c c' : Nat) (xs : List Int) (h1 : Rd w g a .u8 xs) (h2 : Rd w g' a' .u8 xs) (hn : xs.length ≤ 1048576) :
    Calls Tryd.prog 11 #[.agg #[.int .i64 k, .slice a xs.length c], .agg #[.int .i64 k, .slice a' xs.length c']] w fun e w' => e = .returned (.bool true) ∧ Below w.heap.size w w' := by
  have n1 : Below w.heap.size w (w.alloc (.cells #[.int .i64 k, .slice a xs.length c] 27)) := (Below.refl _ _).alloc (Nat.le_refl _) _
  have n2 : Below (w.alloc (.cells #[.int .i64 k, .slice a xs.length c] 27)).heap.size (w.alloc (.cells #[.int .i64 k, .slice a xs.length c] 27)) ((w.alloc (.cells #[.int .i64 k, .slice a xs.length c] 27)).alloc (.cells #[.int .i64 k, .slice a' xs.length c'] 27)) := (Below.refl _ _).alloc (Nat.le_refl _) _
  have N := nxt n1 n2
  have E := hide (fun W (n : Below w.heap.size w W) => eqByteS_same W g g' a a' c c' xs (h1.up n) (h2.up n) hn)
  clear n1 n2 h1 h2
  go_enter Tryd.func11, Tryd.ntmps11
  go_wp2_with fail
  refine (E.out _ N).mono ?_
  rintro e w2 ⟨rfl, m⟩
  go_wp2
  go_ret
  exact ⟨rfl, nxt N m⟩
set_option maxHeartbeats 1000000 in
theorem markRecord_any (w : World) (k : Int) (g : Nat) (a : Option Addr) (c : Nat) (xs : List Int) (m : Int) (ha : Own w g a .u8 xs) (hn : xs.length ≤ 1048576) (k0 : 0 ≤ m) (k1 : m ≤ 1099511627776) :
    Calls Tryd.prog 12 #[.agg #[.int .i64 k, .slice a xs.length c], .int .i64 m] w fun e w' => e = .returned (.int .i64 (m + (xs.length : Int))) ∧ Tch [g] w w' := by
  have n1 : Below w.heap.size w (w.alloc (.cells #[.int .i64 k, .slice a xs.length c] 27)) := (Below.refl _ _).alloc (Nat.le_refl _) _
  have M := hide (markByteS_any (w.alloc (.cells #[.int .i64 k, .slice a xs.length c] 27)) g a c xs m (ha.up n1) hn k0 k1)
  clear ha
  go_enter Tryd.func12, Tryd.ntmps12
  go_wp2_with fail
  refine M.out.mono ?_
  rintro e w2 ⟨rfl, -, O⟩
  go_wp2
  go_ret
  exact ⟨rfl, ((Tch.of_below n1).trans (Tch.of_only O)).mono (T := [g]) (S := [] ++ [g]) (by simp)⟩
end Go.Proofs.YtcempddbcfigbaaDoor
