import Derived.Test.YtmfajpplagbfcaaGreatDoorHB20
import Derived.Test.YtmfajpplagbfcaaGreatDoorHB19
import Derived.Test.YtmfajpplagbfcaaGreatDoorHB15
import Derived.Test.YtmfajpplagbfcaaGreatDoorHB13
import Derived.Test.YtmfajpplagbfcaaGreatDoorHB10
import Derived.Test.YtmfajpplagbfcaaGreatDoorHB17
namespace Go.Proofs.YtmfajpplagbfcaaGreatDoor
set_option maxRecDepth 100000
open Go Go.RowKit
set_option maxRecDepth 100000 in
set_option maxHeartbeats 8000000 in
theorem sbHello_any (w : World) (x10 x11 x12 : Value) (v : Int) (v0 : 0 ≤ v) (v1 : v ≤ 255) (l2 l3 l6 l9 : LstZ) (H2 : LstR w l2) (H3 : LstR w l3) (H6 : LstR w l6) (H9 : LstR w l9) (ho : List UInt8) (hh : ho.length ≤ 255) (g : Nat) (a : Option Addr) (c : Nat) (ls : List (List UInt8)) (H : TxsR w g a ls) (hs : ∀ l ∈ ls, l.length ≤ 255) (ag ea : Int) (a0 : 0 ≤ ag) (a1 : ag < 9223372036854775808) (e0 : 0 ≤ ea) (e1 : ea ≤ 255) :
    Calls Tryz.prog 36 #[.agg #[.int .i64 1, .int .i64 v, .slice l2.a l2.xs.length l2.c, .slice l3.a l3.xs.length l3.c, .string ⟨⟨ho⟩⟩, .slice a ls.length c, .slice l6.a l6.xs.length l6.c, .int .i64 ag, .int .i64 ea, .slice l9.a l9.xs.length l9.c, x10, x11, x12]] w (BodP w (heL v l2.xs l3.xs ho ls l6.xs ag ea l9.xs)) := by
  have G0 := Gr.start w #[.int .i64 1, .int .i64 v, .slice l2.a l2.xs.length l2.c, .slice l3.a l3.xs.length l3.c, .string ⟨⟨ho⟩⟩, .slice a ls.length c, .slice l6.a l6.xs.length l6.c, .int .i64 ag, .int .i64 ea, .slice l9.a l9.xs.length l9.c, x10, x11, x12].toList
  have m2 := H2.m
  have m3 := H3.m
  have m6 := H6.m
  have m9 := H9.m
  have LL : Hid ((lsL ls).length ≤ 8388617) := lsL_len ls H.n H.z
  obtain ⟨OUT, hO'⟩ : ∃ l : List Int, l = heL v l2.xs l3.xs ho ls l6.xs ag ea l9.xs := ⟨_, rfl⟩
  rw [← hO']
  have hO : Hid (OUT = ((((([v] ++ l2.xs) ++ l3.xs) ++ shL ho) ++ lsL ls) ++ loL l6.xs) ++ bdL l6.xs ag ea l9.xs) := by show _ = _; rw [hO']; unfold heL fpL; rw [big1 v v0 v1]; simp only [List.append_assoc]
  clear hO'
  have k0 := G0.c.cell 0
  have z1 : (w.alloc (.cells #[.int .i64 1, .int .i64 v, .slice l2.a l2.xs.length l2.c, .slice l3.a l3.xs.length l3.c, .string ⟨⟨ho⟩⟩, .slice a ls.length c, .slice l6.a l6.xs.length l6.c, .int .i64 ag, .int .i64 ea, .slice l9.a l9.xs.length l9.c, x10, x11, x12] 26)).heap.size = w.heap.size + 1 := by simp
  have v256 : v < 256 := by omega
  go_enter Tryz.func36, Tryz.ntmps36
  go_upto_region 4 with fail
  clear k0 z1
  obtain ⟨vR, hvR⟩ : ∃ x, x = Value.slice (some ⟨w.heap.size + 1, 0, none⟩) 0 0 := ⟨_, rfl⟩
  rw [← hvR] at G0 ⊢
  clear hvR
  generalize (w.alloc (.cells #[.int .i64 1, .int .i64 v, .slice l2.a l2.xs.length l2.c, .slice l3.a l3.xs.length l3.c, .string ⟨⟨ho⟩⟩, .slice a ls.length c, .slice l6.a l6.xs.length l6.c, .int .i64 ag, .int .i64 ea, .slice l9.a l9.xs.length l9.c, x10, x11, x12] 26)).alloc (.cells #[] 5) = W2 at *
  have c1 := G0.c.cell 1
  obtain ⟨v1', W3, hap, G1⟩ := G0.one v (by simp)
  clear G0
  go_upto_region 5 with (at_builtin; refine Lib.wpList_append_run _ rfl _ _ 22 22 rfl _ _ rfl rfl _ _ hap ?_)
  clear hap c1
  rw [List.nil_append] at G1
  have nd : Below W3.heap.size W3 W3.drew := (Below.refl _ _).drew
  have G2 := G1.up nd
  have A19 := hide (G2.app l2.g l2.a l2.c l2.xs (G2.list H2).r H2.z (by simp; omega))
  have A22 : Hid (∀ v' W, Gr w #[.int .i64 1, .int .i64 v, .slice l2.a l2.xs.length l2.c, .slice l3.a l3.xs.length l3.c, .string ⟨⟨ho⟩⟩, .slice a ls.length c, .slice l6.a l6.xs.length l6.c, .int .i64 ag, .int .i64 ea, .slice l9.a l9.xs.length l9.c, x10, x11, x12].toList W v' ([v] ++ l2.xs) → ∃ v'' w', (Builtin.append_ #[22, 22] 22 #[v', .slice l3.a l3.xs.length l3.c]).run Tryz.prog W = .ok v'' w' ∧ (Gr w #[.int .i64 1, .int .i64 v, .slice l2.a l2.xs.length l2.c, .slice l3.a l3.xs.length l3.c, .string ⟨⟨ho⟩⟩, .slice a ls.length c, .slice l6.a l6.xs.length l6.c, .int .i64 ag, .int .i64 ea, .slice l9.a l9.xs.length l9.c, x10, x11, x12].toList w' v'' (([v] ++ l2.xs) ++ l3.xs) ∧ Below (w.heap.size + 1) W w')) := fun v' W h => h.app l3.g l3.a l3.c l3.xs (h.list H3).r H3.z (by simp; omega)
  have CY : Hid (∀ W v' zs, Gr w #[.int .i64 1, .int .i64 v, .slice l2.a l2.xs.length l2.c, .slice l3.a l3.xs.length l3.c, .string ⟨⟨ho⟩⟩, .slice a ls.length c, .slice l6.a l6.xs.length l6.c, .int .i64 ag, .int .i64 ea, .slice l9.a l9.xs.length l9.c, x10, x11, x12].toList W v' zs → (W.cell? ⟨w.heap.size, 2, none⟩ = some (.slice l2.a l2.xs.length l2.c) ∧ W.cell? ⟨w.heap.size, 3, none⟩ = some (.slice l3.a l3.xs.length l3.c))) := fun W v' zs h => ⟨h.c.cell 2, h.c.cell 3⟩
  go_region_held3 (fun W => W.cell? ⟨w.heap.size, 2, none⟩ = some (.slice l2.a l2.xs.length l2.c) ∧ W.cell? ⟨w.heap.size, 3, none⟩ = some (.slice l3.a l3.xs.length l3.c))
    (first | exact (unhide CY) _ _ _ G2 | exact (unhide CY) _ _ _ G3 | exact (unhide CY) _ _ _ G4)
    (first
      | (refine step_append_exM rfl (.tmp 16) (.tmp 18) 22 22 rfl v1' (.slice l2.a l2.xs.length l2.c) rfl rfl _ A19.out ?_; rintro v19 w19 ⟨G3, -⟩; (have B22 := hide ((unhide A22) v19 w19 G3)))
      | (refine step_append_exM rfl (.tmp 19) (.tmp 21) 22 22 rfl v19 (.slice l3.a l3.xs.length l3.c) rfl rfl _ B22.out ?_; rintro v22 w22 ⟨G4, -⟩)
      | fail)
  clear A19 A22 B22 CY G1 G2 G3 nd
  obtain ⟨Z1, hZ1⟩ : ∃ l, l = ([v] ++ l2.xs) ++ l3.xs := ⟨_, rfl⟩
  have lZ1 : Hid (Z1.length ≤ 2097153) := by show _ ≤ _; rw [hZ1]; simp; omega
  rw [← hZ1] at G4 hO
  clear hZ1
  have c4 := G4.c.cell 4
  obtain ⟨cx, wx, hcv, DX, -, mx⟩ := convT w22 ho
  have SH := hide (l13ShortR_any wx w22.heap.size (some ⟨w22.heap.size, 0, none⟩) cx (txL ho) DX (fun h => nomatch h) (by rw [txL_len]; omega))
  rw [txL_len, ← shL_is ho hh] at SH
  clear DX
  go_wp2_with (first | (refine wpList_convT _ rfl 9 22 (.tmp 25) rfl (.string ⟨⟨ho⟩⟩) rfl _ _ hcv ?_) | fail)
  refine SH.out.mono ?_
  rintro e w27 ⟨v27, rfl, R27, n27⟩
  have G5 := (G4.up mx).up n27
  obtain ⟨v28, w28, hap, G6⟩ := G5.row R27 (by rw [shL_len]; have := lZ1.out; omega)
  clear G4 G5 R27 n27 mx hcv SH c4
  obtain ⟨Z2, hZ2⟩ : ∃ l, l = Z1 ++ shL ho := ⟨_, rfl⟩
  have lZ2 : Hid (Z2.length ≤ 2098000) := by show _ ≤ _; rw [hZ2, List.length_append, shL_len]; have := lZ1.out; omega
  rw [← hZ2] at G6 hO
  clear hZ2
  have c5 := G6.c.cell 5
  have CL := hide (l13List_any w28 g a c ls (H.up G6.n) hs)
  go_wp2_with (at_builtin; refine Lib.wpList_append_run _ rfl _ _ 22 22 rfl _ _ rfl rfl _ _ hap ?_)
  clear hap
  refine CL.out.mono ?_
  rintro e w32 ⟨⟨v32, rfl, R32⟩, n32⟩
  obtain ⟨v33, w33, hap, G7⟩ := (G6.up n32).row R32 (by have := lZ2.out; have := LL.out; omega)
  clear G6 R32 n32 CL c5
  obtain ⟨Z3, hZ3⟩ : ∃ l, l = Z2 ++ lsL ls := ⟨_, rfl⟩
  have lZ3 : Hid (Z3.length ≤ 11000000) := by show _ ≤ _; rw [hZ3, List.length_append]; have := lZ2.out; have := LL.out; omega
  rw [← hZ3] at G7 hO
  clear hZ3
  have c6 := G7.c.cell 6
  have CG := hide (l13Long_any w33 l6 (G7.list H6))
  go_wp2_with (at_builtin; refine Lib.wpList_append_run _ rfl _ _ 22 22 rfl _ _ rfl rfl _ _ hap ?_)
  clear hap
  refine CG.out.mono ?_
  rintro e w37 ⟨⟨v37, rfl, R37⟩, n37⟩
  obtain ⟨v38, w38, hap, G8⟩ := (G7.up n37).row R37 (by rw [loL_len]; have := lZ3.out; omega)
  clear G7 R37 n37 CG c6
  obtain ⟨Z4, hZ4⟩ : ∃ l, l = Z3 ++ loL l6.xs := ⟨_, rfl⟩
  have lZ4 : Hid (Z4.length ≤ 13000000) := by show _ ≤ _; rw [hZ4, List.length_append, loL_len]; have := lZ3.out; omega
  rw [← hZ4] at G8 hO
  clear hZ4
  have c6 := G8.c.cell 6
  by_cases h6 : l6.xs.length = 0
  · have t6 : ¬ (0 < l6.xs.length) := by omega
    have FIN : Hid (BodP w OUT (.returned v38) w38) := by show BodP _ _ _ _; rw [hO.out]; unfold bdL; rw [if_pos h6, List.append_nil]; exact G8.body
    clear G8 h6
    go_wp2_with (at_builtin; refine Lib.wpList_append_run _ rfl _ _ 22 22 rfl _ _ rfl rfl _ _ hap ?_)
    clear hap
    go_ret
    exact FIN.out
  · have t6 : 0 < l6.xs.length := by omega
    have c7 := G8.c.cell 7
    have L1 := hide (l1BigB_any w38 ag 4 a0 a1 (by decide))
    have hO2 : Hid (OUT = ((Z4 ++ bigL ag 4) ++ [ea]) ++ l9.xs) := by show _ = _; rw [hO.out]; unfold bdL; rw [if_neg h6, big1 ea e0 e1]; simp only [List.append_assoc]
    clear hO h6
    go_wp2_with (at_builtin; refine Lib.wpList_append_run _ rfl _ _ 22 22 rfl _ _ rfl rfl _ _ hap ?_)
    clear hap
    refine L1.out.mono ?_
    rintro e w46 ⟨rfl, R46, n46⟩
    obtain ⟨v47, w47, hap, G9⟩ := (G8.up n46).row R46 (by rw [bigL_len]; have := lZ4.out; omega)
    clear G8 R46 n46 L1 c7 c6
    obtain ⟨Z5, hZ5⟩ : ∃ l, l = Z4 ++ bigL ag 4 := ⟨_, rfl⟩
    have lZ5 : Hid (Z5.length ≤ 13000004) := by show _ ≤ _; rw [hZ5, List.length_append, bigL_len]; have := lZ4.out; omega
    rw [← hZ5] at G9 hO2
    clear hZ5
    go_upto_region 11 with (at_builtin; refine Lib.wpList_append_run _ rfl _ _ 22 22 rfl _ _ rfl rfl _ _ hap ?_)
    clear hap
    have w8 : IntKind.u8.wrap ea = ea := by simp [IntKind.wrap, IntKind.signed, IntKind.bits]; omega
    have nd : Below w47.heap.size w47 w47.drew := (Below.refl _ _).drew
    have GA := G9.up nd
    have GL := GA.up (show Below w47.drew.heap.size w47.drew (w47.drew.alloc (.cells #[.int .u8 ea] 5)) from (Below.refl _ _).alloc (Nat.le_refl _) _)
    have A53 : Hid (∃ v' w', (Builtin.append_ #[22, 22] 22 #[v47, .slice (some ⟨w47.heap.size, 0, none⟩) 1 1]).run Tryz.prog (w47.drew.alloc (.cells #[.int .u8 ea] 5)) = .ok v' w' ∧ Gr w #[.int .i64 1, .int .i64 v, .slice l2.a l2.xs.length l2.c, .slice l3.a l3.xs.length l3.c, .string ⟨⟨ho⟩⟩, .slice a ls.length c, .slice l6.a l6.xs.length l6.c, .int .i64 ag, .int .i64 ea, .slice l9.a l9.xs.length l9.c, x10, x11, x12].toList w' v' (Z5 ++ [ea])) := GA.one ea (by have := lZ5.out; omega)
    have A56 : Hid (∀ v' W, Gr w #[.int .i64 1, .int .i64 v, .slice l2.a l2.xs.length l2.c, .slice l3.a l3.xs.length l3.c, .string ⟨⟨ho⟩⟩, .slice a ls.length c, .slice l6.a l6.xs.length l6.c, .int .i64 ag, .int .i64 ea, .slice l9.a l9.xs.length l9.c, x10, x11, x12].toList W v' (Z5 ++ [ea]) → ∃ v'' w', (Builtin.append_ #[22, 22] 22 #[v', .slice l9.a l9.xs.length l9.c]).run Tryz.prog W = .ok v'' w' ∧ (Gr w #[.int .i64 1, .int .i64 v, .slice l2.a l2.xs.length l2.c, .slice l3.a l3.xs.length l3.c, .string ⟨⟨ho⟩⟩, .slice a ls.length c, .slice l6.a l6.xs.length l6.c, .int .i64 ag, .int .i64 ea, .slice l9.a l9.xs.length l9.c, x10, x11, x12].toList w' v'' ((Z5 ++ [ea]) ++ l9.xs) ∧ Below (w.heap.size + 1) W w')) := fun v' W h => h.app l9.g l9.a l9.c l9.xs (h.list H9).r H9.z (by have := lZ5.out; simp; omega)
    have CY : Hid (∀ W v' zs, Gr w #[.int .i64 1, .int .i64 v, .slice l2.a l2.xs.length l2.c, .slice l3.a l3.xs.length l3.c, .string ⟨⟨ho⟩⟩, .slice a ls.length c, .slice l6.a l6.xs.length l6.c, .int .i64 ag, .int .i64 ea, .slice l9.a l9.xs.length l9.c, x10, x11, x12].toList W v' zs → (W.cell? ⟨w.heap.size, 8, none⟩ = some (.int .i64 ea) ∧ W.cell? ⟨w.heap.size, 9, none⟩ = some (.slice l9.a l9.xs.length l9.c))) := fun W v' zs h => ⟨h.c.cell 8, h.c.cell 9⟩
    go_region_held3 (fun W => W.cell? ⟨w.heap.size, 8, none⟩ = some (.int .i64 ea) ∧ W.cell? ⟨w.heap.size, 9, none⟩ = some (.slice l9.a l9.xs.length l9.c))
      (first | exact (unhide CY) _ _ _ GA | exact (unhide CY) _ _ _ GL | exact (unhide CY) _ _ _ GB | exact (unhide CY) _ _ _ GC)
      (first
        | (refine step_append_exM rfl (.tmp 48) (.tmp 52) 22 22 rfl v47 (.slice (some ⟨w47.heap.size, 0, none⟩) 1 1) rfl rfl _ A53.out ?_; rintro v53 w53 GB; (have B56 := hide ((unhide A56) v53 w53 GB)))
        | (refine step_append_exM rfl (.tmp 53) (.tmp 55) 22 22 rfl v53 (.slice l9.a l9.xs.length l9.c) rfl rfl _ B56.out ?_; rintro v56 w56 ⟨GC, -⟩)
        | fail)
    have FIN : Hid (BodP w OUT (.returned v56) w56) := by show BodP _ _ _ _; rw [hO2.out]; exact GC.body
    clear A53 A56 B56 CY G9 GA GL GB GC nd
    go_wp2
    go_ret
    exact FIN.out
end Go.Proofs.YtmfajpplagbfcaaGreatDoor
namespace Go.Proofs.YtmfajpplagbfcaaGreatDoor
set_option maxRecDepth 100000
open Go Go.RowKit
theorem cellB {w w' : World} {b : Nat} (n : Below b w w') {q i : Nat} {x : Value} (h : w.cell? ⟨q, i, none⟩ = some x) (hq : q < b) : w'.cell? ⟨q, i, none⟩ = some x :=
  (World.cell?_of_block (a := ⟨q, i, none⟩) (n.block q hq)).trans h
theorem LstR.of_row' {w : World} {b : Nat} {v : Value} {xs : List Int} (R : RowB w b v xs) : ∃ l : LstZ, v = .slice l.a l.xs.length l.c ∧ l.xs = xs ∧ (Rd w l.g l.a .u8 l.xs ∧ (l.a = none → l.c = 0)) := by
  obtain ⟨a, c, g, e, r, z, _, _⟩ := R.rd
  exact ⟨⟨g, a, c, xs⟩, e, rfl, r, z⟩
set_option maxRecDepth 100000 in
set_option maxHeartbeats 2000000 in
theorem sbCerts_any (w : World) (x1 x2 x3 x4 x5 x6 x7 x8 x9 x10 x12 : Value) (g : Nat) (a : Option Addr) (c : Nat) (bs : List (List Int)) (ps : List Plb) (H : CtsR w g a bs ps) :
    Calls Tryz.prog 36 #[.agg #[.int .i64 11, x1, x2, x3, x4, x5, x6, x7, x8, x9, x10, .slice a bs.length c, x12]] w (BodP w (clL bs)) := by
  obtain ⟨i0, hi, hz0, hz1, hz2⟩ := info_parts Tryz.info5
  obtain ⟨N, RC, R⟩ := boxed w [.int .i64 11, x1, x2, x3, x4, x5, x6, x7, x8, x9, x10, .slice a bs.length c, x12] 26
  have hn := H.n
  have SUM := hide (lo_sum bs 1048576 H.z)
  have c0 := RC.cell 0
  have c11 := RC.cell 11
  have z1 : (w.alloc (.cells #[.int .i64 11, x1, x2, x3, x4, x5, x6, x7, x8, x9, x10, .slice a bs.length c, x12] 26)).heap.size = w.heap.size + 1 := by simp
  have z2 : w.heap.size + 1 ≤ ((w.alloc (.cells #[.int .i64 11, x1, x2, x3, x4, x5, x6, x7, x8, x9, x10, .slice a bs.length c, x12] 26)).alloc (.cells #[] 5)).heap.size := by simp
  have R' : RowB ((w.alloc (.cells #[.int .i64 11, x1, x2, x3, x4, x5, x6, x7, x8, x9, x10, .slice a bs.length c, x12] 26)).alloc (.cells #[] 5)) (w.heap.size + 1) (.slice (some ⟨w.heap.size + 1, 0, none⟩) 0 0) [] := R
  have N' : Below w.heap.size w ((w.alloc (.cells #[.int .i64 11, x1, x2, x3, x4, x5, x6, x7, x8, x9, x10, .slice a bs.length c, x12] 26)).alloc (.cells #[] 5)) := N
  have c0' : ((w.alloc (.cells #[.int .i64 11, x1, x2, x3, x4, x5, x6, x7, x8, x9, x10, .slice a bs.length c, x12] 26)).alloc (.cells #[] 5)).cell? ⟨w.heap.size, 0, none⟩ = some (.int .i64 11) := c0
  have c11' : ((w.alloc (.cells #[.int .i64 11, x1, x2, x3, x4, x5, x6, x7, x8, x9, x10, .slice a bs.length c, x12] 26)).alloc (.cells #[] 5)).cell? ⟨w.heap.size, 11, none⟩ = some (.slice a bs.length c) := c11
  clear RC R N c0 c11
  go_enter Tryz.func36, Tryz.ntmps36
  go_upto_region 25 with fail
  generalize (w.alloc (.cells #[.int .i64 11, x1, x2, x3, x4, x5, x6, x7, x8, x9, x10, .slice a bs.length c, x12] 26)).alloc (.cells #[] 5) = W at *
  have nL : Below W.heap.size W (W.alloc (.cells #[.int .u8 (bs.length : Int)] 5)) := (Below.refl _ _).alloc (Nat.le_refl _) _
  obtain ⟨v1, w1, hap, R1, n1⟩ := append_any (P := Tryz.prog) (W.alloc (.cells #[.int .u8 (bs.length : Int)] 5)) 22 i0 Tryz.underlying22 hi hz0 hz1 hz2 (w.heap.size + 1) (w.heap.size + 1) _ _ (R'.up nL) _ _ 1 [(bs.length : Int)] (blk_lit1 W .u8 5 (bs.length : Int)).own0.rd (by simp) (by simp) (by omega) (Nat.le_trans z2 nL.size)
  have N1 : Below (w.heap.size + 1) W w1 := (nL.mono z2).trans n1
  rw [List.nil_append] at R1
  clear R' n1 nL
  go_wp2_with (at_builtin; refine Lib.wpList_append_run _ rfl _ _ 22 22 rfl _ _ rfl rfl _ _ hap ?_)
  clear hap
  go_loopw [3, 4] (fun x i wr => ∃ k : Nat, k ≤ bs.length ∧ i = .int .i64 k ∧ RowB wr (w.heap.size + 1) x ([(bs.length : Int)] ++ ((bs.map loL).take k).flatten) ∧ Below (w.heap.size + 1) W wr) (fun _ i _ => bs.length - (intOf i).toNat)
  case atStart => exact ⟨0, Nat.zero_le _, rfl, by simpa using R1, N1⟩
  case round =>
    obtain ⟨k, hk, rfl, R, hN⟩ := hrel
    clear R1 N1
    have k11 := cellB hN c11' (by omega)
    have NW : Below w.heap.size w wr := N'.trans (hN.mono (by omega))
    by_cases hlt : k < bs.length
    · have HW := H.up NW
      obtain ⟨off, ea, hc⟩ := HW.r.r (by omega)
      have t0 : (k : Int) < (bs.length : Int) := by omega
      have c1 := hc k hlt
      have LX : LstR wr ⟨(ps.getD k plb0).q, (ps.getD k plb0).a, (ps.getD k plb0).c, bs.getD k []⟩ := ⟨HW.r.b k hlt, HW.y k hlt, HW.z k hlt, HW.q k hlt⟩
      have ST := hide (lo_take bs k hlt)
      have SK : ([(bs.length : Int)] ++ ((bs.map loL).take k).flatten).length ≤ 1073741824 := by
        have := SUM.out k
        have : k * (1048576 + 2) ≤ 4 * (1048576 + 2) := Nat.mul_le_mul_right _ (by omega)
        simp only [List.length_append, List.length_cons, List.length_nil]
        omega
      clear hc HW SUM H
      subst ea
      generalize bs.getD k [] = y at *
      generalize ps.getD k plb0 = p at *
      have zy : y.length ≤ 1048576 := LX.m
      have CL := hide (l13Long_any wr _ LX)
      clear LX
      go_wp2_with fail
      refine CL.out.mono ?_
      rintro r w3 ⟨⟨v3, rfl, R3⟩, n3⟩
      have lz := loL_len y
      obtain ⟨l3, e3, x3, L3⟩ := LstR.of_row' R3
      subst e3
      have RR := R.up n3
      have M3 : Below (w.heap.size + 1) W w3 := hN.trans (n3.mono (Nat.le_trans z2 hN.size))
      obtain ⟨v4, w4, hap, R4, n4⟩ := append_any (P := Tryz.prog) w3 22 i0 Tryz.underlying22 hi hz0 hz1 hz2 (w.heap.size + 1) (w.heap.size + 1) _ _ RR l3.g l3.a l3.c l3.xs L3.1 L3.2 (by rw [x3]; show _ + (loL y).length ≤ _; omega) (Nat.le_refl _) (Nat.le_trans z2 M3.size)
      rw [x3] at R4
      have R5 : RowB w4 (w.heap.size + 1) v4 ([(bs.length : Int)] ++ ((bs.map loL).take (k + 1)).flatten) := by rw [ST.out, ← List.append_assoc]; exact R4
      have N4 := M3.trans n4
      clear CL n4 hN ST c1 R RR R3 R4 M3 n3 L3 x3 k11 NW lz SK zy
      go_wp2_with (at_builtin; refine Lib.wpList_append_run _ rfl _ _ 22 22 rfl _ _ rfl rfl _ _ hap ?_)
      clear hap
      go_roundw
      case rel => exact ⟨k + 1, by omega, by go_num, R5, N4⟩
      case measure => simp [intOf]; omega
    · obtain rfl : k = bs.length := by omega
      rw [List.take_of_length_le (by simp)] at R
      clear H SUM
      go_wp2
      go_ret
      exact ⟨⟨_, rfl, R.base (by omega)⟩, NW⟩
end Go.Proofs.YtmfajpplagbfcaaGreatDoor
namespace Go.Proofs.YtmfajpplagbfcaaGreatDoor
set_option maxRecDepth 100000
open Go Go.RowKit
def kfF (m : Msg) : Option (Msg × Int) := if m.k = 1 then some (helloM m, heF m.v m.r.length m.s.length m.ho m.pr m.ti.length m.bi.length m.ag m.ea) else if m.k = 2 then some (answerM m, fpF m.v m.r.length m.s.length) else if m.k = 4 then some (ticketM m, tiF m.ag m.ea m.r.length m.ti.length) else if m.k = 5 then some (endM m, 0) else if m.k = 8 then some (extrasM m, exF m.pr m.ea) else if m.k = 11 then some (certsM m, ceF m.ce) else if m.k = 15 then some (proofM m, pfF 64 m.pf.length) else if m.k = 20 then some (finishedM m, pfF 32 m.pf.length) else if m.k = 24 then some (updateM m, upF m.ea) else none
def mfF (m : Msg) : Int :=
  match kfF m with
  | none => 1
  | some (m', f) => if sameM m' m = true then f else 2
end Go.Proofs.YtmfajpplagbfcaaGreatDoor
namespace Go.Proofs.YtmfajpplagbfcaaGreatDoor
set_option maxRecDepth 100000
open Go Go.RowKit
def bodF (m : Msg) : List Int := if m.k = 1 then heL m.v m.r m.s m.ho m.pr m.ti m.ag m.ea m.bi else if m.k = 2 then fpL m.v m.r m.s ++ [if m.rs = true then 1 else 0] else if m.k = 4 then tkL m.ag m.ea m.r m.ti else if m.k = 5 then [] else if m.k = 8 then lsL m.pr ++ bigL m.ea 1 else if m.k = 11 then clL m.ce else if m.k = 15 then m.pf else if m.k = 20 then m.pf else if m.k = 24 then bigL m.ea 1 else []
def encF (m : Msg) : List Int := if mfF m = 0 then enL m.k (bodF m) else []
theorem encF_of {m : Msg} {m' : Msg} {f : Int} {b : List Int} (h : kfF m = some (m', f)) (hb : bodF m = b) : encF m = if sameM m' m = true ∧ f = 0 then enL m.k b else [] := by
  unfold encF mfF
  rw [h, hb]
  by_cases c : sameM m' m = true
  · by_cases d : f = 0
    · simp [c, d]
    · simp [c, d]
  · simp [c]
set_option maxHeartbeats 1000000 in
theorem encNone (w : World) (x0 x1 x2 x3 x4 x5 x6 x7 x8 x9 x10 x11 x12 : Value)
    (TO : ∀ W, Below w.heap.size w W → Calls Tryz.prog 19 #[.agg #[x0, x1, x2, x3, x4, x5, x6, x7, x8, x9, x10, x11, x12]] W fun e w' => e = .returned (.tuple #[.nilIface, .int .i64 1]) ∧ Below W.heap.size W w') :
    Calls Tryz.prog 7 #[.agg #[x0, x1, x2, x3, x4, x5, x6, x7, x8, x9, x10, x11, x12]] w (BodP w []) := by
  have n0 : Below w.heap.size w (w.alloc (.cells #[x0, x1, x2, x3, x4, x5, x6, x7, x8, x9, x10, x11, x12] 26)) := (Below.refl _ _).alloc (Nat.le_refl _) _
  have CC := hide (TO _ n0)
  have RG := RwC.range (RwC.new w [x0, x1, x2, x3, x4, x5, x6, x7, x8, x9, x10, x11, x12] 26)
  obtain ⟨d13, hd13, hrow13⟩ := rowM
  have N0 := hide n0
  clear TO n0
  go_enter Tryz.func7, Tryz.ntmps7
  go_wp2_with fail
  refine CC.out.mono ?_
  rintro e w1 ⟨rfl, n1⟩
  have N1 := nxt N0.out n1
  clear CC RG n1
  go_wp2
  go_ret
  exact ⟨⟨_, rfl, RowB.nil _ _⟩, N1⟩
theorem implEnc_any (w : World) (p : MQ) (m : Msg) (h : HasM w p m) (i : IsM m) (z : HasZ p m) :
    Calls Tryz.prog 7 #[.agg (mgV p m)] w (BodP w (encF m)) := by
  by_cases h1 : m.k = 1
  · rw [encF_of (m := m) (m' := helloM m) (f := heF m.v m.r.length m.s.length m.ho m.pr m.ti.length m.bi.length m.ag m.ea) (b := heL m.v m.r m.s m.ho m.pr m.ti m.ag m.ea m.bi) (by unfold kfF; rw [if_pos h1]) (by unfold bodF; rw [if_pos h1]), h1]
    exact implEncHello w p m.k m.v m.r m.s m.ho m.pr m.ti m.ag m.ea m.bi m.rs m.ce m.pf h i z h1
  by_cases h2 : m.k = 2
  · rw [encF_of (m := m) (m' := answerM m) (f := fpF m.v m.r.length m.s.length) (b := fpL m.v m.r m.s ++ [if m.rs = true then 1 else 0]) (by unfold kfF; rw [if_neg h1]; rw [if_pos h2]) (by unfold bodF; rw [if_neg h1]; rw [if_pos h2]), h2]
    exact implEncAnswer w p m.k m.v m.r m.s m.ho m.pr m.ti m.ag m.ea m.bi m.rs m.ce m.pf h i z h2
  by_cases h4 : m.k = 4
  · rw [encF_of (m := m) (m' := ticketM m) (f := tiF m.ag m.ea m.r.length m.ti.length) (b := tkL m.ag m.ea m.r m.ti) (by unfold kfF; rw [if_neg h1]; rw [if_neg h2]; rw [if_pos h4]) (by unfold bodF; rw [if_neg h1]; rw [if_neg h2]; rw [if_pos h4]), h4]
    exact implEncTicket w p m.k m.v m.r m.s m.ho m.pr m.ti m.ag m.ea m.bi m.rs m.ce m.pf h i z h4
  by_cases h5 : m.k = 5
  · rw [encF_of (m := m) (m' := endM m) (f := 0) (b := []) (by unfold kfF; rw [if_neg h1]; rw [if_neg h2]; rw [if_neg h4]; rw [if_pos h5]) (by unfold bodF; rw [if_neg h1]; rw [if_neg h2]; rw [if_neg h4]; rw [if_pos h5]), h5]
    exact implEncEnd w p m.k m.v m.r m.s m.ho m.pr m.ti m.ag m.ea m.bi m.rs m.ce m.pf h i z h5
  by_cases h8 : m.k = 8
  · rw [encF_of (m := m) (m' := extrasM m) (f := exF m.pr m.ea) (b := lsL m.pr ++ bigL m.ea 1) (by unfold kfF; rw [if_neg h1]; rw [if_neg h2]; rw [if_neg h4]; rw [if_neg h5]; rw [if_pos h8]) (by unfold bodF; rw [if_neg h1]; rw [if_neg h2]; rw [if_neg h4]; rw [if_neg h5]; rw [if_pos h8]), h8]
    exact implEncExtras w p m.k m.v m.r m.s m.ho m.pr m.ti m.ag m.ea m.bi m.rs m.ce m.pf h i z h8
  by_cases h11 : m.k = 11
  · rw [encF_of (m := m) (m' := certsM m) (f := ceF m.ce) (b := clL m.ce) (by unfold kfF; rw [if_neg h1]; rw [if_neg h2]; rw [if_neg h4]; rw [if_neg h5]; rw [if_neg h8]; rw [if_pos h11]) (by unfold bodF; rw [if_neg h1]; rw [if_neg h2]; rw [if_neg h4]; rw [if_neg h5]; rw [if_neg h8]; rw [if_pos h11]), h11]
    exact implEncCerts w p m.k m.v m.r m.s m.ho m.pr m.ti m.ag m.ea m.bi m.rs m.ce m.pf h i z h11
  by_cases h15 : m.k = 15
  · rw [encF_of (m := m) (m' := proofM m) (f := pfF 64 m.pf.length) (b := m.pf) (by unfold kfF; rw [if_neg h1]; rw [if_neg h2]; rw [if_neg h4]; rw [if_neg h5]; rw [if_neg h8]; rw [if_neg h11]; rw [if_pos h15]) (by unfold bodF; rw [if_neg h1]; rw [if_neg h2]; rw [if_neg h4]; rw [if_neg h5]; rw [if_neg h8]; rw [if_neg h11]; rw [if_pos h15]), h15]
    exact implEncProof w p m.k m.v m.r m.s m.ho m.pr m.ti m.ag m.ea m.bi m.rs m.ce m.pf h i z h15
  by_cases h20 : m.k = 20
  · rw [encF_of (m := m) (m' := finishedM m) (f := pfF 32 m.pf.length) (b := m.pf) (by unfold kfF; rw [if_neg h1]; rw [if_neg h2]; rw [if_neg h4]; rw [if_neg h5]; rw [if_neg h8]; rw [if_neg h11]; rw [if_neg h15]; rw [if_pos h20]) (by unfold bodF; rw [if_neg h1]; rw [if_neg h2]; rw [if_neg h4]; rw [if_neg h5]; rw [if_neg h8]; rw [if_neg h11]; rw [if_neg h15]; rw [if_pos h20]), h20]
    exact implEncFinished w p m.k m.v m.r m.s m.ho m.pr m.ti m.ag m.ea m.bi m.rs m.ce m.pf h i z h20
  by_cases h24 : m.k = 24
  · rw [encF_of (m := m) (m' := updateM m) (f := upF m.ea) (b := bigL m.ea 1) (by unfold kfF; rw [if_neg h1]; rw [if_neg h2]; rw [if_neg h4]; rw [if_neg h5]; rw [if_neg h8]; rw [if_neg h11]; rw [if_neg h15]; rw [if_neg h20]; rw [if_pos h24]) (by unfold bodF; rw [if_neg h1]; rw [if_neg h2]; rw [if_neg h4]; rw [if_neg h5]; rw [if_neg h8]; rw [if_neg h11]; rw [if_neg h15]; rw [if_neg h20]; rw [if_pos h24]), h24]
    exact implEncUpdate w p m.k m.v m.r m.s m.ho m.pr m.ti m.ag m.ea m.bi m.rs m.ce m.pf h i z h24
  have e0 : encF m = [] := by
    unfold encF mfF kfF
    rw [if_neg h1, if_neg h2, if_neg h4, if_neg h5, if_neg h8, if_neg h11, if_neg h15, if_neg h20, if_neg h24]
    rfl
  rw [e0]
  refine encNone w _ _ _ _ _ _ _ _ _ _ _ _ _ fun W n => ?_
  refine (typedNone_any W m.k m.v m.ag m.ea p.a2 p.a3 p.a5 p.a6 p.a9 p.a11 p.a12 m.r.length m.s.length m.pr.length m.ti.length m.bi.length m.ce.length m.pf.length p.c2 p.c3 p.c5 p.c6 p.c9 p.c11 p.c12 ⟨⟨m.ho⟩⟩ m.rs ?_).mono ?_
  · unfold regV
    rw [if_neg h1, if_neg h2, if_neg h4, if_neg h5, if_neg h8, if_neg h11, if_neg h15, if_neg h20, if_neg h24]
  · rintro e w' ⟨rfl, n'⟩
    exact ⟨rfl, n'⟩
end Go.Proofs.YtmfajpplagbfcaaGreatDoor
namespace Go.Proofs.YtmfajpplagbfcaaGreatDoor
set_option maxRecDepth 100000
open Go Go.RowKit
theorem pr_all {ls : List (List UInt8)} {n : Nat} (h : prB ls n ≠ false) : ∀ l ∈ ls, l.length ≤ 255 := by
  unfold prB at h
  rw [Bool.ne_false_iff, Bool.and_eq_true] at h
  have h2 := List.all_eq_true.1 h.2
  intro l hl
  obtain ⟨i, hi, rfl⟩ := List.getElem_of_mem hl
  have h3 := h2 i (List.mem_range.2 hi)
  unfold prA at h3
  rw [List.getD_eq_getElem?_getD, List.getElem?_eq_getElem hi, Option.getD_some, Bool.and_eq_true, Bool.and_eq_true] at h3
  have := of_decide_eq_true h3.2.1
  omega
theorem fp_all {v : Int} {r s : Nat} (h : fpB v r s = false) : 0 ≤ v ∧ v ≤ 255 := by
  unfold fpB at h
  rw [Bool.or_eq_false_iff, Bool.or_eq_false_iff] at h
  have a := of_decide_eq_false h.1
  have b := of_decide_eq_false h.2.1
  omega
theorem age_all {g : Int} (h : ageB g = true) : 0 ≤ g ∧ g < 9223372036854775808 := by
  unfold ageB at h
  rw [Bool.and_eq_true] at h
  have a := of_decide_eq_true h.1
  have b := of_decide_eq_true h.2
  omega
theorem flg_all {g : Int} (h : flgB g = true) : 0 ≤ g ∧ g ≤ 255 := by
  unfold flgB at h
  rw [Bool.or_eq_true] at h
  rcases h with h | h
  · have a := of_decide_eq_true h
    omega
  · have a := of_decide_eq_true h
    omega
theorem name_all {ho : List UInt8} (h : nameF ho = 0) : ho.length ≤ 255 := by
  unfold nameF at h
  by_cases c : ho.length < 1 ∨ 128 < ho.length
  · rw [if_pos c] at h
    simp at h
  · omega
theorem he_all {v : Int} {r s : Nat} {ho : List UInt8} {ls : List (List UInt8)} {t b : Nat} {g e : Int} (h : heF v r s ho ls t b g e = 0) : (0 ≤ v ∧ v ≤ 255) ∧ ho.length ≤ 255 ∧ (∀ l ∈ ls, l.length ≤ 255) ∧ (0 ≤ g ∧ g < 9223372036854775808) ∧ (0 ≤ e ∧ e ≤ 255) := by
  unfold heF at h
  by_cases h1 : (fpB v r s || !bdB t b g e) = true
  · rw [if_pos h1] at h
    simp at h
  rw [if_neg h1] at h
  rw [Bool.not_eq_true, Bool.or_eq_false_iff] at h1
  by_cases h2 : nameF ho ≠ 0
  · rw [if_pos h2] at h
    simp at h
  rw [if_neg h2] at h
  by_cases h3 : prB ls 8 = false
  · rw [if_pos h3] at h
    simp at h
  rw [if_neg h3] at h
  by_cases h4 : 400 < t
  · rw [if_pos h4] at h
    simp at h
  rw [if_neg h4] at h
  by_cases h5 : (!ageB g || !flgB e) = true
  · rw [if_pos h5] at h
    simp at h
  rw [Bool.not_eq_true, Bool.or_eq_false_iff] at h5
  exact ⟨fp_all h1.1, name_all (Classical.not_not.1 h2), pr_all h3, age_all (by simpa using h5.1), flg_all (by simpa using h5.2)⟩
theorem fpF_all {v : Int} {r s : Nat} (h : fpF v r s = 0) : 0 ≤ v ∧ v ≤ 255 := by
  unfold fpF at h
  by_cases h1 : fpB v r s = true
  · rw [if_pos h1] at h
    simp at h
  · exact fp_all (by simpa using h1)
theorem ti_all {g e : Int} {r t : Nat} (h : tiF g e r t = 0) : (0 ≤ g ∧ g < 9223372036854775808) ∧ (0 ≤ e ∧ e < 9223372036854775808) := by
  unfold tiF at h
  by_cases h1 : r ≠ 32
  · rw [if_pos h1] at h
    simp at h
  rw [if_neg h1] at h
  by_cases h2 : t = 0 ∨ 400 < t
  · rw [if_pos h2] at h
    simp at h
  rw [if_neg h2] at h
  by_cases h5 : (!ageB g || !ageB e) = true
  · rw [if_pos h5] at h
    simp at h
  rw [Bool.not_eq_true, Bool.or_eq_false_iff] at h5
  exact ⟨age_all (by simpa using h5.1), age_all (by simpa using h5.2)⟩
theorem ex_all {ls : List (List UInt8)} {e : Int} (h : exF ls e = 0) : (∀ l ∈ ls, l.length ≤ 255) ∧ (0 ≤ e ∧ e ≤ 255) := by
  unfold exF at h
  by_cases h1 : prB ls 1 = false
  · rw [if_pos h1] at h
    simp at h
  rw [if_neg h1] at h
  by_cases h2 : flgB e = false
  · rw [if_pos h2] at h
    simp at h
  exact ⟨pr_all h1, flg_all (by simpa using h2)⟩
theorem up_all {e : Int} (h : upF e = 0) : 0 ≤ e ∧ e ≤ 255 := by
  unfold upF at h
  by_cases h2 : flgB e = false
  · rw [if_pos h2] at h
    simp at h
  exact flg_all (by simpa using h2)
theorem mf_zero {m m' : Msg} {f : Int} (hk : kfF m = some (m', f)) (h : mfF m = 0) : f = 0 := by
  unfold mfF at h
  rw [hk] at h
  by_cases c : sameM m' m = true
  · simpa [c] using h
  · simp [c] at h
def SbP (w : World) (p : MQ) (m : Msg) : Prop := Calls Tryz.prog 36 #[.agg (mgV p m)] w (BodP w (bodF m)) ∧ (bodF m).length ≤ 536870912 ∧ 0 ≤ m.k ∧ m.k ≤ 255
set_option maxRecDepth 100000 in
theorem sb_any (w : World) (p : MQ) (m : Msg) (h : HasM w p m) (i : IsM m) (z : HasZ p m) (f0 : mfF m = 0) : SbP w p m := by
  unfold SbP
  by_cases h1 : m.k = 1
  · have F : heF m.v m.r.length m.s.length m.ho m.pr m.ti.length m.bi.length m.ag m.ea = 0 := mf_zero (m' := helloM m) (by unfold kfF; rw [if_pos h1]) f0
    have eb : bodF m = heL m.v m.r m.s m.ho m.pr m.ti m.ag m.ea m.bi := by unfold bodF; rw [if_pos h1]
    have kk : 0 ≤ m.k ∧ m.k ≤ 255 := by omega
    rw [eb]
    unfold mgV
    rw [h1] at kk ⊢
    have A := he_all F; exact ⟨sbHello_any w _ _ _ m.v A.1.1 A.1.2 ⟨p.g2, p.a2, p.c2, m.r⟩ ⟨p.g3, p.a3, p.c3, m.s⟩ ⟨p.g6, p.a6, p.c6, m.ti⟩ ⟨p.g9, p.a9, p.c9, m.bi⟩ (lstR_of h.r z.z2 i.rL) (lstR_of h.s z.z3 i.sL) (lstR_of h.ti z.z6 i.tiL) (lstR_of h.bi z.z9 i.biL) m.ho A.2.1 p.g5 p.a5 p.c5 m.pr (txsR_of h.pr (he_pr F) i.prZ) A.2.2.1 m.ag m.ea A.2.2.2.1.1 A.2.2.2.1.2 A.2.2.2.2.1 A.2.2.2.2.2, heL_len i.rL i.sL i.hoL (he_pr F) i.prZ i.tiL i.biL, kk⟩
  by_cases h2 : m.k = 2
  · have F : fpF m.v m.r.length m.s.length = 0 := mf_zero (m' := answerM m) (by unfold kfF; rw [if_neg h1]; rw [if_pos h2]) f0
    have eb : bodF m = fpL m.v m.r m.s ++ [if m.rs = true then 1 else 0] := by unfold bodF; rw [if_neg h1]; rw [if_pos h2]
    have kk : 0 ≤ m.k ∧ m.k ≤ 255 := by omega
    rw [eb]
    unfold mgV
    rw [h2] at kk ⊢
    have A := fpF_all F; exact ⟨sbAnswer_any w _ _ _ _ _ _ _ _ m.v A.1 A.2 ⟨p.g2, p.a2, p.c2, m.r⟩ ⟨p.g3, p.a3, p.c3, m.s⟩ (lstR_of h.r z.z2 i.rL) (lstR_of h.s z.z3 i.sL) m.rs, by have a1 := i.rL; have a2 := i.sL; rw [List.length_append, fpL_len]; simp only [List.length_cons, List.length_nil]; omega, kk⟩
  by_cases h4 : m.k = 4
  · have F : tiF m.ag m.ea m.r.length m.ti.length = 0 := mf_zero (m' := ticketM m) (by unfold kfF; rw [if_neg h1]; rw [if_neg h2]; rw [if_pos h4]) f0
    have eb : bodF m = tkL m.ag m.ea m.r m.ti := by unfold bodF; rw [if_neg h1]; rw [if_neg h2]; rw [if_pos h4]
    have kk : 0 ≤ m.k ∧ m.k ≤ 255 := by omega
    rw [eb]
    unfold mgV
    rw [h4] at kk ⊢
    have A := ti_all F; exact ⟨sbTicket_any w _ _ _ _ _ _ _ _ m.ag m.ea A.1.1 A.1.2 A.2.1 A.2.2 ⟨p.g2, p.a2, p.c2, m.r⟩ ⟨p.g6, p.a6, p.c6, m.ti⟩ (lstR_of h.r z.z2 i.rL) (lstR_of h.ti z.z6 i.tiL), by have a1 := i.rL; have a2 := i.tiL; unfold tkL; simp only [List.length_append, bigL_len, loL_len]; omega, kk⟩
  by_cases h5 : m.k = 5
  · skip
    have eb : bodF m = [] := by unfold bodF; rw [if_neg h1]; rw [if_neg h2]; rw [if_neg h4]; rw [if_pos h5]
    have kk : 0 ≤ m.k ∧ m.k ≤ 255 := by omega
    rw [eb]
    unfold mgV
    rw [h5] at kk ⊢
    exact ⟨sbEnd_any w _ _ _ _ _ _ _ _ _ _ _ _, by simp, kk⟩
  by_cases h8 : m.k = 8
  · have F : exF m.pr m.ea = 0 := mf_zero (m' := extrasM m) (by unfold kfF; rw [if_neg h1]; rw [if_neg h2]; rw [if_neg h4]; rw [if_neg h5]; rw [if_pos h8]) f0
    have eb : bodF m = lsL m.pr ++ bigL m.ea 1 := by unfold bodF; rw [if_neg h1]; rw [if_neg h2]; rw [if_neg h4]; rw [if_neg h5]; rw [if_pos h8]
    have kk : 0 ≤ m.k ∧ m.k ≤ 255 := by omega
    rw [eb]
    unfold mgV
    rw [h8] at kk ⊢
    have A := ex_all F; exact ⟨sbExtras_any w _ _ _ _ _ _ _ _ _ _ p.g5 p.a5 p.c5 m.pr (txsR_of h.pr (ex_pr F) i.prZ) A.1 m.ea A.2.1 A.2.2, by have a1 := lsL_len m.pr (ex_pr F) i.prZ; rw [List.length_append, bigL_len]; omega, kk⟩
  by_cases h11 : m.k = 11
  · have F : ceF m.ce = 0 := mf_zero (m' := certsM m) (by unfold kfF; rw [if_neg h1]; rw [if_neg h2]; rw [if_neg h4]; rw [if_neg h5]; rw [if_neg h8]; rw [if_pos h11]) f0
    have eb : bodF m = clL m.ce := by unfold bodF; rw [if_neg h1]; rw [if_neg h2]; rw [if_neg h4]; rw [if_neg h5]; rw [if_neg h8]; rw [if_pos h11]
    have kk : 0 ≤ m.k ∧ m.k ≤ 255 := by omega
    rw [eb]
    unfold mgV
    rw [h11] at kk ⊢
    exact ⟨sbCerts_any w _ _ _ _ _ _ _ _ _ _ _ p.g11 p.a11 p.c11 m.ce p.ps (ctsR_of h.ce (ce_n F) i.ceZ z.zc), clL_len (ce_n F) i.ceZ, kk⟩
  by_cases h15 : m.k = 15
  · have F : pfF 64 m.pf.length = 0 := mf_zero (m' := proofM m) (by unfold kfF; rw [if_neg h1]; rw [if_neg h2]; rw [if_neg h4]; rw [if_neg h5]; rw [if_neg h8]; rw [if_neg h11]; rw [if_pos h15]) f0
    have eb : bodF m = m.pf := by unfold bodF; rw [if_neg h1]; rw [if_neg h2]; rw [if_neg h4]; rw [if_neg h5]; rw [if_neg h8]; rw [if_neg h11]; rw [if_pos h15]
    have kk : 0 ≤ m.k ∧ m.k ≤ 255 := by omega
    rw [eb]
    unfold mgV
    rw [h15] at kk ⊢
    exact ⟨sbProof_any w _ _ _ _ _ _ _ _ _ _ _ ⟨p.g12, p.a12, p.c12, m.pf⟩ (lstR_of h.pf z.z12 i.pfL), by have a1 := i.pfL; omega, kk⟩
  by_cases h20 : m.k = 20
  · have F : pfF 32 m.pf.length = 0 := mf_zero (m' := finishedM m) (by unfold kfF; rw [if_neg h1]; rw [if_neg h2]; rw [if_neg h4]; rw [if_neg h5]; rw [if_neg h8]; rw [if_neg h11]; rw [if_neg h15]; rw [if_pos h20]) f0
    have eb : bodF m = m.pf := by unfold bodF; rw [if_neg h1]; rw [if_neg h2]; rw [if_neg h4]; rw [if_neg h5]; rw [if_neg h8]; rw [if_neg h11]; rw [if_neg h15]; rw [if_pos h20]
    have kk : 0 ≤ m.k ∧ m.k ≤ 255 := by omega
    rw [eb]
    unfold mgV
    rw [h20] at kk ⊢
    exact ⟨sbFinished_any w _ _ _ _ _ _ _ _ _ _ _ ⟨p.g12, p.a12, p.c12, m.pf⟩ (lstR_of h.pf z.z12 i.pfL), by have a1 := i.pfL; omega, kk⟩
  by_cases h24 : m.k = 24
  · have F : upF m.ea = 0 := mf_zero (m' := updateM m) (by unfold kfF; rw [if_neg h1]; rw [if_neg h2]; rw [if_neg h4]; rw [if_neg h5]; rw [if_neg h8]; rw [if_neg h11]; rw [if_neg h15]; rw [if_neg h20]; rw [if_pos h24]) f0
    have eb : bodF m = bigL m.ea 1 := by unfold bodF; rw [if_neg h1]; rw [if_neg h2]; rw [if_neg h4]; rw [if_neg h5]; rw [if_neg h8]; rw [if_neg h11]; rw [if_neg h15]; rw [if_neg h20]; rw [if_pos h24]
    have kk : 0 ≤ m.k ∧ m.k ≤ 255 := by omega
    rw [eb]
    unfold mgV
    rw [h24] at kk ⊢
    have A := up_all F; exact ⟨sbUpdate_any w _ _ _ _ _ _ _ _ _ _ _ m.ea A.1 A.2, by rw [bigL_len]; omega, kk⟩
  exfalso
  unfold mfF kfF at f0
  rw [if_neg h1, if_neg h2, if_neg h4, if_neg h5, if_neg h8, if_neg h11, if_neg h15, if_neg h20, if_neg h24] at f0
  simp at f0
end Go.Proofs.YtmfajpplagbfcaaGreatDoor
