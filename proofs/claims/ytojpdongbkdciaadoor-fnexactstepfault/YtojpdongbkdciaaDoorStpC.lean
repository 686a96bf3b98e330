
/-
  The laws' helpers on a Step: counted, copied, held against each other (written by gens/stpc.py).
-/
import Derived.Test.YtojpdongbkdciaaDoorTcH
import Derived.Test.YtojpdongbkdciaaDoorHelp
import Derived.Test.YtojpdongbkdciaaDoorSzR
import Derived.Deep.DeepCutAuto
import Derived.Deep.MidRow
namespace Go.Proofs.YtojpdongbkdciaaDoor
set_option maxRecDepth 100000
open Go Go.RowKit

set_option maxHeartbeats 1000000 in
theorem szStep_any (w : World) (ki en nu co : Int) (a : Option Addr) (n c : Nat) (left : Int) (hn : n < 9223372036854775808) (hl : 0 ≤ left) (hm : left ≤ 1048576) :
    Calls Tryd.prog 4 #[.agg #[.int .i64 ki, .int .i64 en, .int .i64 nu, .int .i64 co, .slice a n c], .int .i64 left] w fun e w' => e = .returned (.int .i64 (if left < (n : Int) then -1 else left - (n : Int))) ∧ Below w.heap.size w w' := by
  have n1 : Below w.heap.size w (w.alloc (.cells #[.int .i64 ki, .int .i64 en, .int .i64 nu, .int .i64 co, .slice a n c] 24)) := (Below.refl _ _).alloc (Nat.le_refl _) _
  have S1 := fun W => szByteR W a n c left hn (by omega) (by omega)
  by_cases h0 : left < (n : Int)
  · rw [if_pos h0]
    rw [if_pos h0] at S1
    go_enter Tryd.func4, Tryd.ntmps4
    go_wp2_with fail
    refine (S1 _).mono ?_
    rintro e w2 ⟨rfl, rfl⟩
    go_wp2
    go_ret
    exact ⟨rfl, n1⟩
  · have t0 : decide (left - (n : Int) < 0) = false := by simp; omega
    rw [if_neg h0]
    rw [if_neg h0] at S1
    go_enter Tryd.func4, Tryd.ntmps4
    go_wp2_with fail
    refine (S1 _).mono ?_
    rintro e w2 ⟨rfl, rfl⟩
    go_wp2
    go_ret
    exact ⟨rfl, n1⟩
theorem iSp : (Tryd.prog.info? 27).map (·.size) = some 5 := by kernel_rfl
theorem rowSp : ∃ d, Tryd.prog.underlying 27 = some d ∧ d.isRow = true := ⟨_, Tryd.underlying27, rfl⟩
theorem oneSp (ki en nu co : Int) (a : Option Addr) (n c : Nat) : ([.int .i64 ki, .int .i64 en, .int .i64 nu, .int .i64 co, .slice a n c] : List Value).toArray.all (·.oneCell') = true := all_oneCell_toArray fun v hv => by
  simp only [List.mem_cons, List.not_mem_nil, or_false] at hv
  rcases hv with rfl | rfl | rfl | rfl | rfl
  all_goals rfl
set_option maxHeartbeats 8000000 in
theorem toStep_any (w : World) (ki en nu co : Int) (g : Nat) (a : Option Addr) (c : Nat) (xs : List Int) (hr : Rd w g a .u8 xs) (hn : xs.length ≤ 1048576) :
    Calls Tryd.prog 6 #[.agg #[.int .i64 ki, .int .i64 en, .int .i64 nu, .int .i64 co, .slice a xs.length c]] w fun e w' => ∃ p, e = .returned (.agg #[.int .i64 ki, .int .i64 en, .int .i64 nu, .int .i64 co, .slice (some ⟨p, 0, none⟩) xs.length xs.length]) ∧ Blk w' p .u8 xs ∧ w.heap.size ≤ p ∧ Below w.heap.size w w' := by
  have T0 := TMs.new w 24 27 [.int .i64 ki, .int .i64 en, .int .i64 nu, .int .i64 co, .slice a xs.length c] [.int .i64 0, .int .i64 0, .int .i64 0, .int .i64 0, .slice none 0 0]
  obtain ⟨d1, hd1, hrow1⟩ := rowSp
  go_enter Tryd.func6, Tryd.ntmps6
  go_upto_region 2 with fail
  have T0 : TMs w (((w.alloc (.cells #[.int .i64 ki, .int .i64 en, .int .i64 nu, .int .i64 co, .slice a xs.length c] 24)).alloc (.cells #[.int .i64 0, .int .i64 0, .int .i64 0, .int .i64 0, .slice none 0 0] 27)).alloc (.cells #[.int .i64 0, .int .i64 0, .int .i64 0, .int .i64 0, .slice none 0 0] 27)) 24 27 [.int .i64 ki, .int .i64 en, .int .i64 nu, .int .i64 co, .slice a xs.length c] [.int .i64 0, .int .i64 0, .int .i64 0, .int .i64 0, .slice none 0 0] [.int .i64 0, .int .i64 0, .int .i64 0, .int .i64 0, .slice none 0 0] := T0
  generalize ((w.alloc (.cells #[.int .i64 ki, .int .i64 en, .int .i64 nu, .int .i64 co, .slice a xs.length c] 24)).alloc (.cells #[.int .i64 0, .int .i64 0, .int .i64 0, .int .i64 0, .slice none 0 0] 27)).alloc (.cells #[.int .i64 0, .int .i64 0, .int .i64 0, .int .i64 0, .slice none 0 0] 27) = X0 at *
  have q0 : X0.cell? ⟨w.heap.size, 0, none⟩ = some (.int .i64 ki) := T0.S.cell 0
  have q1 : X0.cell? ⟨w.heap.size + 1 + 1, 0, none⟩ = some (.int .i64 0) := T0.T.cell 0
  have q2 := T0.T.free 0
  have T6 : TMs w (X0.setCell ⟨w.heap.size + 1 + 1, 0, none⟩ (.int .i64 ki)) 24 27 [.int .i64 ki, .int .i64 en, .int .i64 nu, .int .i64 co, .slice a xs.length c] [.int .i64 0, .int .i64 0, .int .i64 0, .int .i64 0, .slice none 0 0] [.int .i64 ki, .int .i64 0, .int .i64 0, .int .i64 0, .slice none 0 0] := T0.set 0 _
  go_upto_region 3 with fail
  clear q0 q1 q2 T0
  generalize X0.setCell ⟨w.heap.size + 1 + 1, 0, none⟩ (.int .i64 ki) = X1 at *
  have T0 := T6
  clear T6
  have q0 : X1.cell? ⟨w.heap.size, 1, none⟩ = some (.int .i64 en) := T0.S.cell 1
  have q1 : X1.cell? ⟨w.heap.size + 1 + 1, 1, none⟩ = some (.int .i64 0) := T0.T.cell 1
  have q2 := T0.T.free 1
  have T6 : TMs w (X1.setCell ⟨w.heap.size + 1 + 1, 1, none⟩ (.int .i64 en)) 24 27 [.int .i64 ki, .int .i64 en, .int .i64 nu, .int .i64 co, .slice a xs.length c] [.int .i64 0, .int .i64 0, .int .i64 0, .int .i64 0, .slice none 0 0] [.int .i64 ki, .int .i64 en, .int .i64 0, .int .i64 0, .slice none 0 0] := T0.set 1 _
  go_upto_region 4 with fail
  clear q0 q1 q2 T0
  generalize X1.setCell ⟨w.heap.size + 1 + 1, 1, none⟩ (.int .i64 en) = X2 at *
  have T0 := T6
  clear T6
  have q0 : X2.cell? ⟨w.heap.size, 2, none⟩ = some (.int .i64 nu) := T0.S.cell 2
  have q1 : X2.cell? ⟨w.heap.size + 1 + 1, 2, none⟩ = some (.int .i64 0) := T0.T.cell 2
  have q2 := T0.T.free 2
  have T6 : TMs w (X2.setCell ⟨w.heap.size + 1 + 1, 2, none⟩ (.int .i64 nu)) 24 27 [.int .i64 ki, .int .i64 en, .int .i64 nu, .int .i64 co, .slice a xs.length c] [.int .i64 0, .int .i64 0, .int .i64 0, .int .i64 0, .slice none 0 0] [.int .i64 ki, .int .i64 en, .int .i64 nu, .int .i64 0, .slice none 0 0] := T0.set 2 _
  go_upto_region 5 with fail
  clear q0 q1 q2 T0
  generalize X2.setCell ⟨w.heap.size + 1 + 1, 2, none⟩ (.int .i64 nu) = X3 at *
  have T0 := T6
  clear T6
  have q0 : X3.cell? ⟨w.heap.size, 3, none⟩ = some (.int .i64 co) := T0.S.cell 3
  have q1 : X3.cell? ⟨w.heap.size + 1 + 1, 3, none⟩ = some (.int .i64 0) := T0.T.cell 3
  have q2 := T0.T.free 3
  have T6 : TMs w (X3.setCell ⟨w.heap.size + 1 + 1, 3, none⟩ (.int .i64 co)) 24 27 [.int .i64 ki, .int .i64 en, .int .i64 nu, .int .i64 co, .slice a xs.length c] [.int .i64 0, .int .i64 0, .int .i64 0, .int .i64 0, .slice none 0 0] [.int .i64 ki, .int .i64 en, .int .i64 nu, .int .i64 co, .slice none 0 0] := T0.set 3 _
  go_upto_region 6 with fail
  clear q0 q1 q2 T0
  generalize X3.setCell ⟨w.heap.size + 1 + 1, 3, none⟩ (.int .i64 co) = X4 at *
  have T0 := T6
  clear T6
  have qS : X4.cell? ⟨w.heap.size, 4, none⟩ = some (.slice a xs.length c) := T0.S.cell 4
  have TB := hide (toByteS_any X4 g a c xs (hr.up T0.N) hn)
  go_wp2_with fail
  refine TB.out.mono ?_
  rintro e V0 ⟨rfl, B0, m⟩
  have lt0 := T0.T.lt
  have T2 := T0.up m
  have lv0 := B0.lt
  clear TB qS T0 m
  obtain ⟨G, hG⟩ : ∃ G, X4.heap.size = G := ⟨_, rfl⟩
  rw [hG] at B0 lt0 lv0 ⊢
  clear hG
  have qT : V0.cell? ⟨w.heap.size + 1 + 1, 4, none⟩ = some (.slice none 0 0) := T2.T.cell 4
  have qF := T2.T.free 4
  have T3 : TMs w (V0.setCell ⟨w.heap.size + 1 + 1, 4, none⟩ (.slice (some ⟨G, 0, none⟩) xs.length xs.length)) 24 27 [.int .i64 ki, .int .i64 en, .int .i64 nu, .int .i64 co, .slice a xs.length c] [.int .i64 0, .int .i64 0, .int .i64 0, .int .i64 0, .slice none 0 0] [.int .i64 ki, .int .i64 en, .int .i64 nu, .int .i64 co, .slice (some ⟨G, 0, none⟩) xs.length xs.length] := T2.set 4 _
  have C0 : Blk (V0.setCell ⟨w.heap.size + 1 + 1, 4, none⟩ (.slice (some ⟨G, 0, none⟩) xs.length xs.length)) G .u8 xs := B0.of_block ((Only.setCell V0 (w.heap.size + 1 + 1) 4 _).block G (by omega))
  go_upto_region 7 with fail
  clear T2 qT qF B0
  generalize V0.setCell ⟨w.heap.size + 1 + 1, 4, none⟩ (.slice (some ⟨G, 0, none⟩) xs.length xs.length) = X5 at *
  have T0 := T3
  have B0 := C0
  clear T3 C0
  have RG := T0.T.rangeG
  have TH := T0.U.thereG
  have RR := World.rangeAt_setCells_same X5 (w.heap.size + 1) 0 [.int .i64 ki, .int .i64 en, .int .i64 nu, .int .i64 co, .slice (some ⟨G, 0, none⟩) xs.length xs.length] TH
  have OQ := only_setG X5 (w.heap.size + 1) [.int .i64 ki, .int .i64 en, .int .i64 nu, .int .i64 co, .slice (some ⟨G, 0, none⟩) xs.length xs.length] 0
  have N8 : Hid (Below w.heap.size w (X5.setCells (w.heap.size + 1) 0 [.int .i64 ki, .int .i64 en, .int .i64 nu, .int .i64 co, .slice (some ⟨G, 0, none⟩) xs.length xs.length])) := T0.N.trans (OQ.below (by omega))
  have D0 := hide (B0.of_block (OQ.block G (by omega)))
  have ON := oneSp ki en nu co (some ⟨G, 0, none⟩) xs.length xs.length
  clear OQ T0 B0
  go_wp2_with (first
    | (refine wpList_load_mid rfl 27 (.tmp 3) rfl (w.heap.size + 1 + 1) 0 rfl [.int .i64 ki, .int .i64 en, .int .i64 nu, .int .i64 co, .slice (some ⟨G, 0, none⟩) xs.length xs.length] d1 RG hd1 hrow1 iSp ?_)
    | (refine wpList_store_mid rfl 27 (.tmp 2) (.tmp 20) rfl (w.heap.size + 1) 0 #[.int .i64 ki, .int .i64 en, .int .i64 nu, .int .i64 co, .slice (some ⟨G, 0, none⟩) xs.length xs.length] rfl rfl ?hth ?hin ?hon ?_))
  case hth => exact TH
  case hin => exact iSp
  case hon => exact ON
  exact bodyPost_ret (v := .agg #[.int .i64 ki, .int .i64 en, .int .i64 nu, .int .i64 co, .slice (some ⟨G, 0, none⟩) xs.length xs.length]) (results_cellG Tryd.results6 _ _ (w.heap.size + 1) _ d1 rfl RR hd1 hrow1 iSp) rfl ⟨G, rfl, D0.out, by omega, N8.out⟩
set_option maxHeartbeats 2000000 in
theorem eqStep_same (w : World) (ki en nu co : Int) (g g2 : Nat) (a a2 : Option Addr) (c c2 : Nat) (xs : List Int) (h1 : Rd w g a .u8 xs) (h2 : Rd w g2 a2 .u8 xs) (hn : xs.length ≤ 1048576) :
    Calls Tryd.prog 8 #[.agg #[.int .i64 ki, .int .i64 en, .int .i64 nu, .int .i64 co, .slice a xs.length c], .agg #[.int .i64 ki, .int .i64 en, .int .i64 nu, .int .i64 co, .slice a2 xs.length c2]] w fun e w' => e = .returned (.bool true) ∧ Below w.heap.size w w' := by
  have n1 : Below w.heap.size w (w.alloc (.cells #[.int .i64 ki, .int .i64 en, .int .i64 nu, .int .i64 co, .slice a xs.length c] 27)) := (Below.refl _ _).alloc (Nat.le_refl _) _
  have n2 : Below (w.alloc (.cells #[.int .i64 ki, .int .i64 en, .int .i64 nu, .int .i64 co, .slice a xs.length c] 27)).heap.size (w.alloc (.cells #[.int .i64 ki, .int .i64 en, .int .i64 nu, .int .i64 co, .slice a xs.length c] 27)) ((w.alloc (.cells #[.int .i64 ki, .int .i64 en, .int .i64 nu, .int .i64 co, .slice a xs.length c] 27)).alloc (.cells #[.int .i64 ki, .int .i64 en, .int .i64 nu, .int .i64 co, .slice a2 xs.length c2] 27)) := (Below.refl _ _).alloc (Nat.le_refl _) _
  have P0 : RwC (w.alloc (.cells #[.int .i64 ki, .int .i64 en, .int .i64 nu, .int .i64 co, .slice a xs.length c] 27)) w.heap.size [.int .i64 ki, .int .i64 en, .int .i64 nu, .int .i64 co, .slice a xs.length c] 27 := RwC.new w _ _
  have P1 : RwC ((w.alloc (.cells #[.int .i64 ki, .int .i64 en, .int .i64 nu, .int .i64 co, .slice a xs.length c] 27)).alloc (.cells #[.int .i64 ki, .int .i64 en, .int .i64 nu, .int .i64 co, .slice a2 xs.length c2] 27)) (w.heap.size + 1) [.int .i64 ki, .int .i64 en, .int .i64 nu, .int .i64 co, .slice a2 xs.length c2] 27 := by have := RwC.new (w.alloc (.cells #[.int .i64 ki, .int .i64 en, .int .i64 nu, .int .i64 co, .slice a xs.length c] 27)) [.int .i64 ki, .int .i64 en, .int .i64 nu, .int .i64 co, .slice a2 xs.length c2] 27; simpa using this
  have N := nxt n1 n2
  replace P0 := P0.up n2
  have E0 := hide (fun W (n : Below w.heap.size w W) => eqByteS_same W g g2 a a2 c c2 xs (h1.up n) (h2.up n) hn)
  have p0 : ((w.alloc (.cells #[.int .i64 ki, .int .i64 en, .int .i64 nu, .int .i64 co, .slice a xs.length c] 27)).alloc (.cells #[.int .i64 ki, .int .i64 en, .int .i64 nu, .int .i64 co, .slice a2 xs.length c2] 27)).cell? ⟨w.heap.size, 0, none⟩ = some (.int .i64 ki) := P0.cell 0
  have r0 : ((w.alloc (.cells #[.int .i64 ki, .int .i64 en, .int .i64 nu, .int .i64 co, .slice a xs.length c] 27)).alloc (.cells #[.int .i64 ki, .int .i64 en, .int .i64 nu, .int .i64 co, .slice a2 xs.length c2] 27)).cell? ⟨w.heap.size + 1, 0, none⟩ = some (.int .i64 ki) := P1.cell 0
  have p1 : ((w.alloc (.cells #[.int .i64 ki, .int .i64 en, .int .i64 nu, .int .i64 co, .slice a xs.length c] 27)).alloc (.cells #[.int .i64 ki, .int .i64 en, .int .i64 nu, .int .i64 co, .slice a2 xs.length c2] 27)).cell? ⟨w.heap.size, 1, none⟩ = some (.int .i64 en) := P0.cell 1
  have r1 : ((w.alloc (.cells #[.int .i64 ki, .int .i64 en, .int .i64 nu, .int .i64 co, .slice a xs.length c] 27)).alloc (.cells #[.int .i64 ki, .int .i64 en, .int .i64 nu, .int .i64 co, .slice a2 xs.length c2] 27)).cell? ⟨w.heap.size + 1, 1, none⟩ = some (.int .i64 en) := P1.cell 1
  have p2 : ((w.alloc (.cells #[.int .i64 ki, .int .i64 en, .int .i64 nu, .int .i64 co, .slice a xs.length c] 27)).alloc (.cells #[.int .i64 ki, .int .i64 en, .int .i64 nu, .int .i64 co, .slice a2 xs.length c2] 27)).cell? ⟨w.heap.size, 2, none⟩ = some (.int .i64 nu) := P0.cell 2
  have r2 : ((w.alloc (.cells #[.int .i64 ki, .int .i64 en, .int .i64 nu, .int .i64 co, .slice a xs.length c] 27)).alloc (.cells #[.int .i64 ki, .int .i64 en, .int .i64 nu, .int .i64 co, .slice a2 xs.length c2] 27)).cell? ⟨w.heap.size + 1, 2, none⟩ = some (.int .i64 nu) := P1.cell 2
  have p3 : ((w.alloc (.cells #[.int .i64 ki, .int .i64 en, .int .i64 nu, .int .i64 co, .slice a xs.length c] 27)).alloc (.cells #[.int .i64 ki, .int .i64 en, .int .i64 nu, .int .i64 co, .slice a2 xs.length c2] 27)).cell? ⟨w.heap.size, 3, none⟩ = some (.int .i64 co) := P0.cell 3
  have r3 : ((w.alloc (.cells #[.int .i64 ki, .int .i64 en, .int .i64 nu, .int .i64 co, .slice a xs.length c] 27)).alloc (.cells #[.int .i64 ki, .int .i64 en, .int .i64 nu, .int .i64 co, .slice a2 xs.length c2] 27)).cell? ⟨w.heap.size + 1, 3, none⟩ = some (.int .i64 co) := P1.cell 3
  have p4 : ((w.alloc (.cells #[.int .i64 ki, .int .i64 en, .int .i64 nu, .int .i64 co, .slice a xs.length c] 27)).alloc (.cells #[.int .i64 ki, .int .i64 en, .int .i64 nu, .int .i64 co, .slice a2 xs.length c2] 27)).cell? ⟨w.heap.size, 4, none⟩ = some (.slice a xs.length c) := P0.cell 4
  have r4 : ((w.alloc (.cells #[.int .i64 ki, .int .i64 en, .int .i64 nu, .int .i64 co, .slice a xs.length c] 27)).alloc (.cells #[.int .i64 ki, .int .i64 en, .int .i64 nu, .int .i64 co, .slice a2 xs.length c2] 27)).cell? ⟨w.heap.size + 1, 4, none⟩ = some (.slice a2 xs.length c2) := P1.cell 4
  clear n1 n2 h1 h2 P0 P1
  go_enter Tryd.func8, Tryd.ntmps8
  go_wp2_with fail
  generalize (w.alloc (.cells #[.int .i64 ki, .int .i64 en, .int .i64 nu, .int .i64 co, .slice a xs.length c] 27)).alloc (.cells #[.int .i64 ki, .int .i64 en, .int .i64 nu, .int .i64 co, .slice a2 xs.length c2] 27) = wa at *
  refine (E0.out _ N).mono ?_
  rintro e w2 ⟨rfl, m⟩
  replace N := nxt N m
  clear m
  go_wp2
  go_ret
  exact ⟨rfl, N⟩
end Go.Proofs.YtojpdongbkdciaaDoor
