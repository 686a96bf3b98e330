
/-
  The program's told once more: its two lists lie in different blocks.
-/
import Derived.Test.YtljpjbojdekeiaaDoorLsM
namespace Go.Proofs.YtljpjbojdekeiaaDoor
set_option maxRecDepth 100000
open Go Go.RowKit

/-- As ST3, the two lists in different blocks. -/
def ST4 (w : World) (v : Value) (B : Nat) (L : Int) (ws rs : List Int) : Prop :=
  ∃ (a a' : Option Addr) (c c' g g' : Nat), v = .agg #[.int .i64 L, .slice a ws.length c, .slice a' rs.length c'] ∧ Own w g a .u8 ws ∧ Own w g' a' .u8 rs ∧ B ≤ g ∧ B ≤ g' ∧ (0 < ws.length → g < g') ∧ ws.length ≤ c ∧ rs.length ≤ c'
theorem ST4.up {w w' : World} {v : Value} {B : Nat} {L : Int} {ws rs : List Int} (h : ST4 w v B L ws rs) (n : Below w.heap.size w w') : ST4 w' v B L ws rs := by
  obtain ⟨a, a', c, c', g, g', e, o, o', q⟩ := h
  exact ⟨a, a', c, c', g, g', e, o.up n, o'.up n, q⟩
set_option linter.unusedSimpArgs false in
set_option maxRecDepth 20000 in
set_option maxHeartbeats 8000000 in
theorem told_4 (w : World) (L : Nat) (C : S8) (R : List Int) (hl : R.length = 128) (hC : Ok32 C) (hL : L ≤ 1099511627776) :
    Calls Tryd.prog 55 #[.agg (hcl .u32 (L : Int) C R).toArray] w fun e w' => (∃ v, e = .returned v ∧ ST4 w' v w.heap.size (L : Int) (tell32 C) (R.take (L % 64))) ∧ Below w.heap.size w w' := by
  have n0 : Below w.heap.size w (w.alloc (.cells (hcl .u32 (L : Int) C R).toArray 63)) := (Below.refl _ _).alloc (Nat.le_refl _) _
  have H0 := HB.alloc .u32 w 63 (L : Int) C hl
  have z0 : (w.alloc (.cells (hcl .u32 (L : Int) C R).toArray 63)).heap.size = w.heap.size + 1 := by simp
  have LH := hcl_len .u32 (L : Int) C hl
  have RS := fun W => restSize_32 W (L : Int) C R hl (by omega)
  have rz : (L : Int) % 64 = ((L % 64 : Nat) : Int) := by omega
  rw [rz] at RS
  have CE : Hid (∀ W, HB .u32 W w.heap.size (L : Int) C R → W.cell? ⟨w.heap.size, 0, none⟩ = some (.int .i64 (L : Int)) ∧ W.cell? ⟨w.heap.size, 1, none⟩ = some (.int .u32 C.a) ∧ W.cell? ⟨w.heap.size, 2, none⟩ = some (.int .u32 C.b) ∧ W.cell? ⟨w.heap.size, 3, none⟩ = some (.int .u32 C.c) ∧ W.cell? ⟨w.heap.size, 4, none⟩ = some (.int .u32 C.d) ∧ W.cell? ⟨w.heap.size, 5, none⟩ = some (.int .u32 C.e) ∧ W.cell? ⟨w.heap.size, 6, none⟩ = some (.int .u32 C.f) ∧ W.cell? ⟨w.heap.size, 7, none⟩ = some (.int .u32 C.g) ∧ W.cell? ⟨w.heap.size, 8, none⟩ = some (.int .u32 C.h) ∧ W.rangeAt w.heap.size 0 (hcl .u32 (L : Int) C R)) := fun W h =>
    ⟨h.range 0 _ rfl, h.range 1 _ rfl, h.range 2 _ rfl, h.range 3 _ rfl, h.range 4 _ rfl, h.range 5 _ rfl, h.range 6 _ rfl, h.range 7 _ rfl, h.range 8 _ rfl, h.range⟩
  have rr0 : ∀ W, HB .u32 W w.heap.size (L : Int) C R → Rd W w.heap.size (some ⟨w.heap.size, 9, none⟩) .u8 (R.take (L % 64)) := fun W h _ => ⟨9, rfl, fun i hi => by
    rw [List.length_take] at hi
    have := (h.rs i (by omega)).1
    rw [List.getD_eq_getElem?_getD, List.getElem?_take, if_pos (by omega), ← List.getD_eq_getElem?_getD]
    exact this⟩
  generalize hv : hcl .u32 (L : Int) C R = vs at *
  obtain ⟨d3, hd3, hrow3⟩ := rowSt
  have hdH := Tryd.underlying63
  have hiH : (Tryd.prog.info? 63).map (·.size) = some vs.length := by rw [LH]; exact infoH_32
  obtain ⟨rs, hrs⟩ : ∃ l, l = R.take (L % 64) := ⟨_, rfl⟩
  have rl : rs.length = L % 64 := by rw [hrs, List.length_take]; omega
  rw [← hrs] at rr0 ⊢
  have rr := hide rr0
  have rm : L % 64 < 64 := by omega
  have RL := hide rl
  obtain ⟨tw, htw⟩ : ∃ l, l = tell32 C := ⟨_, rfl⟩
  have BY0 : Hid (∀ V W, Below V.heap.size V W → Calls Tryd.prog 86 #[.agg #[.int .u32 C.a, .int .u32 C.b, .int .u32 C.c, .int .u32 C.d, .int .u32 C.e, .int .u32 C.f, .int .u32 C.g, .int .u32 C.h]] W fun e w' => ∃ a c g, e = .returned (.slice a tw.length c) ∧ Own w' g a .u8 tw ∧ tw.length ≤ c ∧ V.heap.size ≤ g ∧ Below V.heap.size V w' ∧ Below W.heap.size W w') := fun V W n => (bytes_32 W C hC).mono (by
    rintro r w' ⟨⟨a1, c1, g1, rfl, o1, p1, q1, r1⟩, n'⟩
    rw [htw]
    exact ⟨a1, c1, g1, rfl, o1, q1, Nat.le_trans n.size r1, nxt n n', n'⟩)
  rw [← htw]
  clear hrs rl rr0 htw rz hL hC
  generalize L % 64 = m at *
  have CL0 : Hid (∀ V W, Below V.heap.size V W → HB .u32 W w.heap.size (L : Int) C R → Calls Tryd.prog 87 #[.slice (some ⟨w.heap.size, 9, none⟩) m 128] W fun e w' => ∃ a c g, e = .returned (.slice a rs.length c) ∧ Own w' g a .u8 rs ∧ rs.length ≤ c ∧ V.heap.size ≤ g ∧ W.heap.size ≤ g ∧ Below V.heap.size V w' ∧ Below W.heap.size W w') := fun V W n h => by
    rw [← RL.out]
    exact (clone_any W _ _ 128 rs (rr.out W h) (by rw [RL.out]; omega)).mono (by
      rintro r w' ⟨⟨a1, c1, g1, rfl, o1, p1, q1, r1⟩, n'⟩
      exact ⟨a1, c1, g1, rfl, o1, q1, Nat.le_trans n.size r1, r1, nxt n n', n'⟩)
  go_enter Tryd.func55, Tryd.ntmps55
  go_upto_region 1 with fail
  generalize w.alloc (.cells vs.toArray 63) = wa at *
  have n1 : Below wa.heap.size wa (wa.alloc (.cells #[.int .i64 0, .slice none 0 0, .slice none 0 0] 26)) := (Below.refl _ _).alloc (Nat.le_refl _) _
  have TH : (wa.alloc (.cells #[.int .i64 0, .slice none 0 0, .slice none 0 0] 26)).there (w.heap.size + 1) 0 3 := there3 (x := .int .i64 0) (y := .slice none 0 0) (z := .slice none 0 0) (t := 26) (by rw [← z0]; show (wa.heap.push _)[wa.heap.size]? = _; simp)
  have T1 := C3.new wa (.int .i64 0) (.slice none 0 0) (.slice none 0 0) 26
  rw [z0] at T1
  have H1 := H0.up n1
  have N1 := nxt n0 n1
  have zb : w.heap.size + 1 < (wa.alloc (.cells #[.int .i64 0, .slice none 0 0, .slice none 0 0] 26)).heap.size := by simp; omega
  generalize wa.alloc (.cells #[.int .i64 0, .slice none 0 0, .slice none 0 0] 26) = wb at *
  clear n0 n1 H0 z0
  have rk : (m : Int) ≤ 128 := by omega
  have rk0 : (0 : Int) ≤ (m : Int) := by omega
  have nd : Below wb.heap.size wb wb.drew := (Below.refl _ _).drew
  have W1 : ∀ {W}, Below wb.heap.size wb W → Below (w.heap.size + 1) wb W := fun b => ⟨b.os, b.tape, b.output, b.size, fun k hk => b.block k (by omega)⟩
  have CY : Hid (∀ W, Below (w.heap.size + 1) wb W → W.cell? ⟨w.heap.size, 0, none⟩ = some (.int .i64 (L : Int)) ∧ W.cell? ⟨w.heap.size, 1, none⟩ = some (.int .u32 C.a) ∧ W.cell? ⟨w.heap.size, 2, none⟩ = some (.int .u32 C.b) ∧ W.cell? ⟨w.heap.size, 3, none⟩ = some (.int .u32 C.c) ∧ W.cell? ⟨w.heap.size, 4, none⟩ = some (.int .u32 C.d) ∧ W.cell? ⟨w.heap.size, 5, none⟩ = some (.int .u32 C.e) ∧ W.cell? ⟨w.heap.size, 6, none⟩ = some (.int .u32 C.f) ∧ W.cell? ⟨w.heap.size, 7, none⟩ = some (.int .u32 C.g) ∧ W.cell? ⟨w.heap.size, 8, none⟩ = some (.int .u32 C.h) ∧ W.rangeAt w.heap.size 0 vs) := fun W n => CE.out W (H1.of_block (n.block w.heap.size (by omega)))
  have RS2 : Hid (∀ W, Below wb.heap.size wb W → Calls Tryd.prog 82 #[.agg vs.toArray] W fun e w' => e = .returned (.int .i64 (m : Int)) ∧ Below wb.heap.size wb w' ∧ Below W.heap.size W w') := fun W n => (RS W).mono (by
    rintro r w' ⟨rfl, n'⟩
    exact ⟨rfl, nxt n n', n'⟩)
  have BY := hide (BY0.out wb)
  have CL : Hid (∀ W, Below wb.heap.size wb W → Calls Tryd.prog 87 #[.slice (some ⟨w.heap.size, 9, none⟩) m 128] W fun e w' => (∃ a c g, e = .returned (.slice a rs.length c) ∧ Own w' g a .u8 rs ∧ rs.length ≤ c ∧ wb.heap.size ≤ g ∧ W.heap.size ≤ g) ∧ Below wb.heap.size wb w' ∧ Below W.heap.size W w' ∧ C3 w' (w.heap.size + 1) (.int .i64 0) (.slice none 0 0) (.slice none 0 0) ∧ w'.there (w.heap.size + 1) 0 3) := fun W n => (CL0.out wb W n (H1.up n)).mono (by
    rintro r w' ⟨a, c, g, rfl, o, q, r1, r2, b, n'⟩
    exact ⟨⟨a, c, g, rfl, o, q, r1, r2⟩, b, n', T1.up b, there_upn (by omega) TH b⟩)
  clear CL0 BY0 RS CE H1 TH T1 rr RL hv hl
  refine wp_region_noPanic ?_
  refine wp_region_held_drew (S := (fun W => W.cell? ⟨w.heap.size, 0, none⟩ = some (.int .i64 (L : Int)) ∧ W.cell? ⟨w.heap.size, 1, none⟩ = some (.int .u32 C.a) ∧ W.cell? ⟨w.heap.size, 2, none⟩ = some (.int .u32 C.b) ∧ W.cell? ⟨w.heap.size, 3, none⟩ = some (.int .u32 C.c) ∧ W.cell? ⟨w.heap.size, 4, none⟩ = some (.int .u32 C.d) ∧ W.cell? ⟨w.heap.size, 5, none⟩ = some (.int .u32 C.e) ∧ W.cell? ⟨w.heap.size, 6, none⟩ = some (.int .u32 C.f) ∧ W.cell? ⟨w.heap.size, 7, none⟩ = some (.int .u32 C.g) ∧ W.cell? ⟨w.heap.size, 8, none⟩ = some (.int .u32 C.h) ∧ W.rangeAt w.heap.size 0 vs)) (by kernel_rfl) ((unhide CY) _ (W1 nd)) (fun hH => ?_)
  refine wpAnyH_take (i := 0) (v := .pointer (some ⟨w.heap.size, 0, none⟩)) rfl (by kernel_rfl) (by kernel_rfl) (by kernel_rfl) (fun _ _ _ h => h) (Or.inl ⟨by rfl, fun W hSw => by (try dsimp only at hSw); go_simp⟩) hH ?_
  try simp only [Act.put, List.setIfInBounds_toArray, List.set_cons_zero, List.set_cons_succ]
  refine wpAnyH_take (i := 1) (v := .int .i64 (L : Int)) rfl (by kernel_rfl) (by kernel_rfl) (by kernel_rfl) (fun _ _ _ h => h) (Or.inl ⟨by rfl, fun W hSw => by (try dsimp only at hSw); go_simp⟩) hH ?_
  try simp only [Act.put, List.setIfInBounds_toArray, List.set_cons_zero, List.set_cons_succ]
  refine wpAnyH_take (i := 2) (v := .pointer (some ⟨w.heap.size, 1, none⟩)) rfl (by kernel_rfl) (by kernel_rfl) (by kernel_rfl) (fun _ _ _ h => h) (Or.inl ⟨by rfl, fun W hSw => by (try dsimp only at hSw); go_simp⟩) hH ?_
  try simp only [Act.put, List.setIfInBounds_toArray, List.set_cons_zero, List.set_cons_succ]
  refine wpAnyH_take (i := 3) (v := .agg #[.int .u32 C.a, .int .u32 C.b, .int .u32 C.c, .int .u32 C.d, .int .u32 C.e, .int .u32 C.f, .int .u32 C.g, .int .u32 C.h]) rfl (by kernel_rfl) (by kernel_rfl) (by kernel_rfl) (fun _ _ _ h => h) (Or.inl ⟨by rfl, fun W hSw => by (try dsimp only at hSw); go_simp⟩) hH ?_
  try simp only [Act.put, List.setIfInBounds_toArray, List.set_cons_zero, List.set_cons_succ]
  refine wpAnyH_take (i := 5) (v := .pointer (some ⟨w.heap.size, 9, none⟩)) rfl (by kernel_rfl) (by kernel_rfl) (by kernel_rfl) (fun _ _ _ h => h) (Or.inl ⟨by rfl, fun W hSw => by (try dsimp only at hSw); go_simp⟩) hH ?_
  try simp only [Act.put, List.setIfInBounds_toArray, List.set_cons_zero, List.set_cons_succ]
  refine wpAnyH_take (i := 6) (v := .agg vs.toArray) rfl (by kernel_rfl) (by kernel_rfl) (by kernel_rfl) (fun _ _ _ h => h) (yieldsIf_load_mid (by rfl) 63 (.tmp 1) rfl w.heap.size 0 rfl vs _ (fun W h => h.2.2.2.2.2.2.2.2.2) hdH rfl hiH) hH ?_
  try simp only [Act.put, List.setIfInBounds_toArray, List.set_cons_zero, List.set_cons_succ]
  refine wpAnyH_ready (rs := [4]) (by kernel_rfl) (by simp) ?_
  refine AllReadyH.cons rfl (fun K4 hK4 => ?_) AllReadyH.nil
  go_simp
  go_at_call 86
  refine ((unhide BY) _ nd).mono ?_
  rintro r w7 ⟨a7, c7, g7, rfl, o7, q7, r7, b7, n7⟩
  go_wp2_with fail
  refine hK4.out _ _ ((unhide CY) _ (W1 b7)) (fun h7 => ?_)
  clear hK4
  try simp only [Act.put, List.setIfInBounds_toArray, List.set_cons_zero, List.set_cons_succ]
  refine wpAnyH_ready (rs := [7]) (by kernel_rfl) (by simp) ?_
  refine AllReadyH.cons rfl (fun K7 hK7 => ?_) AllReadyH.nil
  go_simp
  go_at_call 82
  refine ((unhide RS2) _ b7).mono ?_
  rintro r w10 ⟨rfl, b10, n10⟩
  go_wp2_with fail
  refine hK7.out _ _ ((unhide CY) _ (W1 b10)) (fun h10 => ?_)
  clear hK7
  try simp only [Act.put, List.setIfInBounds_toArray, List.set_cons_zero, List.set_cons_succ]
  refine wpAnyH_take (i := 8) (v := .slice (some ⟨w.heap.size, 9, none⟩) m 128) rfl (by kernel_rfl) (by kernel_rfl) (by kernel_rfl) (fun _ _ _ h => h) (Or.inl ⟨by rfl, fun W hSw => by (try dsimp only at hSw); go_simp⟩) h10 ?_
  try simp only [Act.put, List.setIfInBounds_toArray, List.set_cons_zero, List.set_cons_succ]
  refine wpAnyH_ready (rs := [9]) (by kernel_rfl) (by simp) ?_
  refine AllReadyH.cons rfl (fun K9 hK9 => ?_) AllReadyH.nil
  go_simp
  go_at_call 87
  refine ((unhide CL) _ b10).mono ?_
  rintro r w12 ⟨⟨a12, c12, g12, rfl, o12, q12, r12, s12⟩, b12, n12, T12, th12⟩
  go_wp2_with fail
  refine hK9.out _ _ ((unhide CY) _ (W1 b12)) (fun h12 => ?_)
  clear hK9
  try simp only [Act.put, List.setIfInBounds_toArray, List.set_cons_zero, List.set_cons_succ]
  refine wpAnyH_take (i := 10) (v := .agg #[.int .i64 (L : Int), .slice a7 tw.length c7, .slice a12 rs.length c12]) rfl (by kernel_rfl) (by kernel_rfl) (by kernel_rfl) (fun _ _ _ h => h) (Or.inl ⟨by rfl, fun W hSw => by (try dsimp only at hSw); go_simp⟩) h12 ?_
  try simp only [Act.put, List.setIfInBounds_toArray, List.set_cons_zero, List.set_cons_succ]
  have f0 := (th12 0 (by decide)).2
  have f1 := (th12 1 (by decide)).2
  have f2 := (th12 2 (by decide)).2
  have e0 := T12.c0
  have e1 := T12.c1
  have e2 := T12.c2
  refine wpAnyH_ready (rs := [11]) (by kernel_rfl) (by simp) ?_
  refine AllReadyH.cons rfl (fun K11 hK11 => ?_) AllReadyH.nil
  go_simp
  have T13 := ((T12.set0 (.int .i64 (L : Int))).set1 (.slice a7 tw.length c7)).set2 (.slice a12 rs.length c12)
  have RR := T13.range
  have B13 : Below (w.heap.size + 1) wb (((w12.setCell ⟨w.heap.size + 1, 0, none⟩ (.int .i64 (L : Int))).setCell ⟨w.heap.size + 1, 1, none⟩ (.slice a7 tw.length c7)).setCell ⟨w.heap.size + 1, 2, none⟩ (.slice a12 rs.length c12)) := (((W1 b12).setCell (Nat.le_refl _) _).setCell (Nat.le_refl _) _).setCell (Nat.le_refl _) _
  refine hK11.out _ _ ((unhide CY) _ B13) (fun h13 => ?_)
  clear hK11
  refine wpAnyH_done (by kernel_rfl) ?_ _
  refine NoPanic.normal ?_
  have l7 : 0 < tw.length → g7 < g12 := fun h => by have := o7.rd.lt h; have := n10.size; omega
  have OQ := ((Only.setCell w12 (w.heap.size + 1) 0 (.int .i64 (L : Int))).trans (Only.setCell _ (w.heap.size + 1) 1 (.slice a7 tw.length c7))).trans (Only.setCell _ (w.heap.size + 1) 2 (.slice a12 rs.length c12))
  have o7' := ((o7.up n10).up n12).only OQ (fun _ => by omega)
  have o12' := o12.only OQ (fun _ => by omega)
  have N2 := (nxt N1 b12).trans (OQ.below (B := w.heap.size) (by omega))
  clear hH h7 h10 h12 h13 f0 f1 f2 e0 e1 e2 T12 th12 o7 o12 OQ B13 T13
  generalize ((w12.setCell ⟨w.heap.size + 1, 0, none⟩ (.int .i64 (L : Int))).setCell ⟨w.heap.size + 1, 1, none⟩ (.slice a7 tw.length c7)).setCell ⟨w.heap.size + 1, 2, none⟩ (.slice a12 rs.length c12) = W2 at *
  go_wp2
  exact bodyPost_ret (v := .agg #[.int .i64 (L : Int), .slice a7 tw.length c7, .slice a12 rs.length c12]) (results_cell_m Tryd.results55 _ _ (w.heap.size + 1) _ d3 rfl RR hd3 hrow3 iSt) rfl ⟨⟨_, rfl, a7, a12, c7, c12, g7, g12, rfl, o7', o12', by omega, by omega, l7, q7, q12⟩, N2⟩
end Go.Proofs.YtljpjbojdekeiaaDoor
