import Derived.Test.YtmfajpplagbfcaaGreatDoorHB27
import Derived.Test.YtmfajpplagbfcaaGreatDoorHB28
namespace Go.Proofs.YtmfajpplagbfcaaGreatDoor
set_option maxRecDepth 100000
open Go Go.RowKit
structure HBo (k : IntKind) (w : World) (q o : Nat) (L : Int) (C : S8) (R : List Int) : Prop where
  len : R.length = 128
  c0 : w.cell? ⟨q, o, none⟩ = some (.int .i64 L)
  f0 : w.frozen? ⟨q, o, none⟩ = false
  ch : Seg w q (o + 1) k C.l
  rs : Seg w q (o + 9) .u8 R
section
variable {k : IntKind} {w w' : World} {q o : Nat} {L : Int} {C : S8} {R : List Int}
theorem HBo.lt (h : HBo k w q o L C R) : q < w.heap.size := block_lt_of_cell h.c0
theorem HBo.of_cells (h : HBo k w q o L C R) (hb : ∀ j, o ≤ j → j < o + 137 → w'.cell? ⟨q, j, none⟩ = w.cell? ⟨q, j, none⟩ ∧ w'.frozen? ⟨q, j, none⟩ = w.frozen? ⟨q, j, none⟩) : HBo k w' q o L C R :=
  ⟨h.len, (hb o (Nat.le_refl _) (by omega)).1.trans h.c0, (hb o (Nat.le_refl _) (by omega)).2.trans h.f0,
   fun i hi => by
    have := hb (o + 1 + i) (by omega) (by rw [S8.l_len] at hi; omega)
    exact ⟨this.1.trans (h.ch i hi).1, this.2.trans (h.ch i hi).2⟩,
   fun i hi => by
    have := hb (o + 9 + i) (by omega) (by rw [h.len] at hi; omega)
    exact ⟨this.1.trans (h.rs i hi).1, this.2.trans (h.rs i hi).2⟩⟩
theorem HBo.of_block (h : HBo k w q o L C R) (hb : w'.heap[q]? = w.heap[q]?) : HBo k w' q o L C R :=
  h.of_cells fun j _ _ => ⟨World.cell?_of_block (a := ⟨q, j, none⟩) hb, World.frozen?_of_block (a := ⟨q, j, none⟩) hb⟩
theorem HBo.up (h : HBo k w q o L C R) (n : Below w.heap.size w w') : HBo k w' q o L C R := h.of_block (n.block q h.lt)
theorem HBo.range (h : HBo k w q o L C R) : w.rangeAt q o (hcl k L C R) := by
  intro j v hv
  unfold hcl at hv
  cases j with
  | zero =>
    simp at hv
    subst hv
    exact h.c0
  | succ j =>
    rw [List.getElem?_cons_succ] at hv
    by_cases c : j < 8
    · rw [List.getElem?_append_left (by rw [List.length_map, S8.l_len]; exact c)] at hv
      rw [show o + (j + 1) = o + 1 + j by omega]
      exact h.ch.range j v hv
    · rw [List.getElem?_append_right (by rw [List.length_map, S8.l_len]; omega), List.length_map, S8.l_len] at hv
      rw [show o + (j + 1) = o + 9 + (j - 8) by omega]
      exact h.rs.range (j - 8) v hv
theorem HBo.there (h : HBo k w q o L C R) : w.there q o 137 := by
  intro j hj
  cases j with
  | zero => exact ⟨by rw [Nat.add_zero, h.c0]; rfl, h.f0⟩
  | succ j =>
    by_cases c : j < 8
    · have := h.ch j (by rw [S8.l_len]; exact c)
      rw [show o + 1 + j = o + (j + 1) by omega] at this
      exact ⟨by rw [this.1]; rfl, this.2⟩
    · have := h.rs (j - 8) (by rw [h.len]; omega)
      rw [show o + 9 + (j - 8) = o + (j + 1) by omega] at this
      exact ⟨by rw [this.1]; rfl, this.2⟩
theorem HBo.of_range (hl : R.length = 128) (rg : w.rangeAt q o (hcl k L C R)) (th : w.there q o 137) : HBo k w q o L C R := by
  have f : ∀ j, j < 137 → w.frozen? ⟨q, o + j, none⟩ = false := fun j hj => (th j hj).2
  refine ⟨hl, rg 0 _ rfl, f 0 (by omega), fun i hi => ⟨?_, ?_⟩, fun i hi => ⟨?_, ?_⟩⟩
  · have := rg (i + 1) (.int k (C.l.getD i 0)) (by
      unfold hcl
      rw [List.getElem?_cons_succ, List.getElem?_append_left (by rw [List.length_map]; exact hi)]
      simp [hi])
    rwa [show o + (i + 1) = o + 1 + i by omega] at this
  · have := f (i + 1) (by rw [S8.l_len] at hi; omega)
    rwa [show o + (i + 1) = o + 1 + i by omega] at this
  · have := rg (i + 9) (.int .u8 (R.getD i 0)) (by
      unfold hcl
      rw [show i + 9 = (i + 8) + 1 by omega, List.getElem?_cons_succ, List.getElem?_append_right (by rw [List.length_map, S8.l_len]; omega), List.length_map, S8.l_len, Nat.add_sub_cancel]
      simp [hi])
    rwa [show o + (i + 9) = o + 9 + i by omega] at this
  · have := f (i + 9) (by omega)
    rwa [show o + (i + 9) = o + 9 + i by omega] at this
theorem HBo.setL (h : HBo k w q o L C R) (L' : Int) : HBo k (w.setCell ⟨q, o, none⟩ (.int .i64 L')) q o L' C R := by
  refine ⟨h.len, World.cell?_setCell_same _ _ _ h.c0, by rw [frozen_setCell]; exact h.f0, fun i hi => ⟨?_, by rw [frozen_setCell]; exact (h.ch i hi).2⟩, fun i hi => ⟨?_, by rw [frozen_setCell]; exact (h.rs i hi).2⟩⟩
  · rw [World.cell?_setCell_other (h := fun h => by simp only [Addr.mk.injEq, true_and, and_true] at h; omega)]
    exact (h.ch i hi).1
  · rw [World.cell?_setCell_other (h := fun h => by simp only [Addr.mk.injEq, true_and, and_true] at h; omega)]
    exact (h.rs i hi).1
theorem HBo.setC (h : HBo k w q o L C R) (C' : S8) : HBo k (w.setCells q (o + 1) (C'.l.map (Value.int k))) q o L C' R := by
  have l8 : (C'.l.map (Value.int k)).length = 8 := by rw [List.length_map, S8.l_len]
  have sm := World.rangeAt_setCells_same w q (o + 1) (C'.l.map (Value.int k)) (by
    rw [l8]
    intro j hj
    have := h.ch j (by rw [S8.l_len]; exact hj)
    exact ⟨by rw [this.1]; rfl, this.2⟩)
  refine ⟨h.len, cell_out h.c0 (.inl (by omega)), by rw [setCells_frozen]; exact h.f0, fun i hi => ⟨?_, ?_⟩, fun i hi => ⟨cell_out (h.rs i hi).1 (.inr (by rw [l8]; omega)), by rw [setCells_frozen]; exact (h.rs i hi).2⟩⟩
  · exact sm i _ (by simp [hi])
  · rw [setCells_frozen]
    exact (h.ch i (by rw [S8.l_len] at hi ⊢; exact hi)).2
theorem HBo.setR (h : HBo k w q o L C R) (r : Nat) (xs : List Int) (hr : r + xs.length ≤ 128) : HBo k (w.setCells q (o + 9 + r) (xs.map (Value.int .u8))) q o L C (lay R r xs) := by
  have hl := h.len
  have lx : (xs.map (Value.int .u8)).length = xs.length := List.length_map _
  have sm := World.rangeAt_setCells_same w q (o + 9 + r) (xs.map (Value.int .u8)) (by
    rw [lx]
    intro j hj
    have := h.rs (r + j) (by omega)
    rw [show o + 9 + (r + j) = o + 9 + r + j by omega] at this
    exact ⟨by rw [this.1]; rfl, this.2⟩)
  refine ⟨by rw [lay_len (by omega)]; exact hl, cell_out h.c0 (.inl (by omega)), by rw [setCells_frozen]; exact h.f0, fun i hi => ⟨cell_out (h.ch i hi).1 (.inl (by rw [S8.l_len] at hi; omega)), by rw [setCells_frozen]; exact (h.ch i hi).2⟩, fun i hi => ?_⟩
  rw [lay_len (by omega)] at hi
  refine ⟨?_, by rw [setCells_frozen]; exact (h.rs i hi).2⟩
  unfold lay
  have tl : (R.take r).length = r := by rw [List.length_take]; omega
  by_cases c1 : i < r
  · rw [getD_apd_left _ _ _ (by omega)]
    have e : (R.take r).getD i 0 = R.getD i 0 := by rw [List.getD_eq_getElem?_getD, List.getD_eq_getElem?_getD, List.getElem?_take, if_pos c1]
    rw [e]
    exact cell_out (h.rs i hi).1 (.inl (by omega))
  · rw [getD_apd_right _ _ _ (by omega), tl]
    by_cases c2 : i - r < xs.length
    · rw [getD_apd_left _ _ _ c2]
      have := sm (i - r) (.int .u8 (xs.getD (i - r) 0)) (by simp [c2])
      rwa [show o + 9 + r + (i - r) = o + 9 + i by omega] at this
    · rw [getD_apd_right _ _ _ (by omega), List.getD_eq_getElem?_getD, List.getElem?_drop, show r + xs.length + (i - r - xs.length) = i by omega, ← List.getD_eq_getElem?_getD]
      exact cell_out (h.rs i hi).1 (.inr (by rw [lx]; omega))
end
structure Bx (q o : Nat) (w w' : World) : Prop where
  bt : Bth q w w'
  out : ∀ j, (j < o ∨ o + 137 ≤ j) → w'.cell? ⟨q, j, none⟩ = w.cell? ⟨q, j, none⟩ ∧ w'.frozen? ⟨q, j, none⟩ = w.frozen? ⟨q, j, none⟩
theorem Bx.refl (q o : Nat) (w : World) : Bx q o w w := ⟨Bth.refl _ _, fun _ _ => ⟨rfl, rfl⟩⟩
theorem Bx.drewN (q o : Nat) (w : World) (n : Nat) : Bx q o w (w.drewN n) := ⟨⟨rfl, rfl, rfl, Nat.le_refl _, fun _ _ _ => rfl⟩, fun _ _ => ⟨rfl, rfl⟩⟩
theorem Bx.trans {q o : Nat} {a b c : World} (h : Bx q o a b) (k : Bx q o b c) : Bx q o a c :=
  ⟨h.bt.trans k.bt, fun j hj => ⟨(k.out j hj).1.trans (h.out j hj).1, (k.out j hj).2.trans (h.out j hj).2⟩⟩
theorem Bx.of_below {q o : Nat} {a b : World} (h : Below a.heap.size a b) (hq : q < a.heap.size) : Bx q o a b :=
  ⟨Bth.of_below h, fun j _ => ⟨World.cell?_of_block (a := ⟨q, j, none⟩) (h.block q hq), World.frozen?_of_block (a := ⟨q, j, none⟩) (h.block q hq)⟩⟩
theorem cells_out (w : World) (q : Nat) : ∀ (vs : List Value) (o j : Nat), (j < o ∨ o + vs.length ≤ j) → (w.setCells q o vs).cell? ⟨q, j, none⟩ = w.cell? ⟨q, j, none⟩ := by
  intro vs
  induction vs generalizing w with
  | nil => intro o j _; rfl
  | cons v vs ih =>
    intro o j hj
    rw [List.length_cons] at hj
    show ((w.setCell ⟨q, o, none⟩ v).setCells q (o + 1) vs).cell? _ = _
    rw [ih (w.setCell ⟨q, o, none⟩ v) (o + 1) j (by omega), World.cell?_setCell_other (h := fun h => by simp only [Addr.mk.injEq, true_and, and_true] at h; omega)]
theorem Bx.cells {q o : Nat} (w : World) (p : Nat) (vs : List Value) (h1 : o ≤ p) (h2 : p + vs.length ≤ o + 137) : Bx q o w (w.setCells q p vs) :=
  ⟨Bth.of_only (only_setCells w q vs p), fun j hj => ⟨cells_out w q vs p j (by omega), setCells_frozen _ _ _ _ _⟩⟩
theorem Bx.setL {q o : Nat} (w : World) (v : Value) : Bx q o w (w.setCell ⟨q, o, none⟩ v) := Bx.cells w o [v] (Nat.le_refl _) (by simp)
theorem HBo.bx {k : IntKind} {w w' : World} {q o p : Nat} {L : Int} {C : S8} {R : List Int} (h : HBo k w q p L C R) (b : Bx q o w w') (hp : p + 137 ≤ o ∨ o + 137 ≤ p) : HBo k w' q p L C R :=
  h.of_cells fun j h1 h2 => b.out j (by omega)
end Go.Proofs.YtmfajpplagbfcaaGreatDoor
namespace Go.Proofs.YtmfajpplagbfcaaGreatDoor
set_option maxRecDepth 100000
open Go Go.RowKit
set_option maxHeartbeats 8000000 in
theorem takeO_32 (w : World) (q o L : Nat) (C : S8) (R : List Int) (hH : HBo .u32 w q o (L : Int) C R) (hC : Ok32 C) (hR : Byt R) (g : Nat) (a : Option Addr) (c : Nat) (xs : List Int) (hr : Rd w g a .u8 xs) (hx : Byt xs) (hc : xs.length ≤ c)
    (hg : 0 < xs.length → g ≠ q) (hL : L + xs.length ≤ 1152921504606846976) (hT : HasT w 1 kL) (hq : 1 ≠ q) :
    Calls Tryz.prog 47 #[.pointer (some ⟨q, o, none⟩), .slice a xs.length c] w fun e w' => e = .returned (.tuple #[]) ∧ ∃ R', HBo .u32 w' q o ((L + xs.length : Nat) : Int) (whole32 C (R.take (L % 64) ++ xs)) R' ∧ Byt R' ∧ R'.take ((L + xs.length) % 64) = left32 (R.take (L % 64) ++ xs) ∧ Bx q o w w' := by
  obtain ⟨Lt, hLt⟩ : ∃ n, n = L + xs.length := ⟨_, rfl⟩
  obtain ⟨Wt, hWt⟩ : ∃ s, s = whole32 C (R.take (L % 64) ++ xs) := ⟨_, rfl⟩
  obtain ⟨Lf, hLf⟩ : ∃ l, l = left32 (R.take (L % 64) ++ xs) := ⟨_, rfl⟩
  rw [← hLt, ← hWt, ← hLf]
  rw [← hLt] at hL
  have HLt := hide hLt.symm
  have HWt := hide hWt.symm
  have HLf := hide hLf.symm
  clear hLt hWt hLf
  go_enter Tryz.func47, Tryz.ntmps47
  go_wp2_with fail
  go_quiet ((go_at_call 75; exact Calls.quiet_of_same (blockSize_32 _)))
  go_wp2_with fail
  have B0 : Bx q o w (w.drewN nq) := Bx.drewN _ _ _ _
  have H0 : HBo .u32 (w.drewN nq) q o (L : Int) C R := hH.of_block rfl
  have T0 : HasT (w.drewN nq) 1 kL := hT
  have R0 : Rd (w.drewN nq) g a .u8 xs := hr
  generalize w.drewN nq = w0 at *
  go_loopw [1] (fun v wr => ∃ (L1 c1 : Nat) (C1 : S8) (R1 xs1 : List Int) (a1 : Option Addr), v = .slice a1 xs1.length c1 ∧ HBo .u32 wr q o (L1 : Int) C1 R1 ∧ Ok32 C1 ∧ Byt R1 ∧ Rd wr g a1 .u8 xs1 ∧ Byt xs1 ∧ xs1.length ≤ c1 ∧ xs1.length ≤ xs.length ∧ Hid (L1 + xs1.length = Lt) ∧ Hid (whole32 C1 (R1.take (L1 % 64) ++ xs1) = Wt) ∧ Hid (left32 (R1.take (L1 % 64) ++ xs1) = Lf) ∧ HasT wr 1 kL ∧ Bx q o w wr) (fun v _ => vlen v)
  case atStart => exact ⟨L, c, C, R, xs, a, rfl, H0, hC, hR, R0, hx, hc, Nat.le_refl _, HLt, HWt, HLf, T0, B0⟩
  case round =>
    obtain ⟨L1, c1, C1, R1, xs1, a1, rfl, hH1, hC1, hR1, hr1, hx1, hc1, hle, hL1, hW1, hF1, hT1, hB1⟩ := hrel
    clear H0 R0 T0 B0 hH hC hR hr hx hT HLt HWt HLf
    by_cases hlt : 0 < xs1.length
    · have hgq := hg (by omega)
      obtain ⟨o1, rfl, hcc⟩ := id hr1 hlt
      obtain ⟨r, er⟩ : ∃ r, r = L1 % 64 := ⟨_, rfl⟩
      have rl : r < 64 := by omega
      have rz : (L1 : Int) % 64 = (r : Int) := by omega
      have rl2 : (r : Int) ≤ 64 := by omega
      have ER := hide er
      clear er
      obtain ⟨n1, hn1⟩ : ∃ n, xs1.length = n := ⟨_, rfl⟩
      have l1 : (0 : Int) < (n1 : Int) := by omega
      have RG := hH1.range
      have RS := restSize_32 wr (L1 : Int) C1 R1 hH1.len (by omega)
      rw [rz] at RS
      have RSH := hide RS
      have LH := hide (hcl_len .u32 (L1 : Int) C1 hH1.len)
      have RN := hide hH1.len
      clear RS
      obtain ⟨d, hd, hrow⟩ : ∃ d, Tryz.prog.underlying 76 = some d ∧ d.isRow = true := by
        have h := undH_32
        cases hq : Tryz.prog.underlying 76 with
        | none => rw [hq] at h; simp at h
        | some d => rw [hq] at h; exact ⟨d, rfl, by simpa using h⟩
      generalize hcl .u32 (L1 : Int) C1 R1 = vs at *
      rw [hn1]
      have HN := hide hn1
      clear hn1
      go_wp2_with (refine wpList_load_mid rfl 76 (.tmp 16) rfl q o rfl vs d RG hd hrow (by rw [LH.out]; exact infoH_32) ?_)
      refine RSH.out.mono ?_
      rintro x w2 ⟨rfl, n2⟩
      clear RSH
      go_wp2_with fail
      obtain ⟨t, ht⟩ : ∃ t, t = min (64 - r) n1 := ⟨_, rfl⟩
      obtain ⟨tk, htk⟩ : ∃ l, l = xs1.take t := ⟨_, rfl⟩
      have tl : tk.length = t := by rw [htk, List.length_take, HN.out]; omega
      have H2 := hH1.up n2
      have hrun := run_copy_cells (P := Tryz.prog) w2 22 22 3 5 q (o + 9 + r) (64 - r) (128 - r) ⟨g, o1, none⟩ n1 c1 (tk.map (Value.int .u8)) und22h s5 (by rw [List.length_map, tl, ht]; exact Nat.min_comm _ _)
        (fun j v hj => by
          have hjl : j < tk.length := by have := (List.getElem?_eq_some_iff.1 hj).1; simpa using this
          have e : tk.getD j 0 = xs1.getD j 0 := by rw [htk, List.getD_eq_getElem?_getD, List.getD_eq_getElem?_getD, List.getElem?_take, if_pos (by omega)]
          have hc' := (hr1.up n2) hlt
          obtain ⟨o', e', hcc'⟩ := hc'
          simp only [Option.some.injEq, Addr.mk.injEq, true_and, and_true] at e'
          subst e'
          rw [Addr.add_mid, hcc' j (by rw [HN.out]; omega), ← e]
          simpa [hjl] using hj)
        (fun j hj => by
          rw [List.length_map, tl] at hj
          have := H2.rs (r + j) (by rw [H2.len]; omega)
          rw [show o + 9 + (r + j) = o + 9 + r + j by omega] at this
          rw [this.1]; rfl)
        (fun j hj => by
          rw [List.length_map, tl] at hj
          have := H2.rs (r + j) (by rw [H2.len]; omega)
          rw [show o + 9 + (r + j) = o + 9 + r + j by omega] at this
          exact this.2)
        (fun v hv => by obtain ⟨x, _, rfl⟩ := List.mem_map.1 hv; rfl)
      rw [List.length_map, tl] at hrun
      have H3 := H2.setR r tk (by omega)
      have Q3 := only_setCells w2 q (tk.map (Value.int .u8)) (o + 9 + r)
      have B3 : Bx q o w (w2.setCells q (o + 9 + r) (tk.map (Value.int .u8))) := (hB1.trans (Bx.of_below n2 hH1.lt)).trans (Bx.cells w2 _ _ (by omega) (by rw [List.length_map, tl]; omega))
      have T3 : HasT (w2.setCells q (o + 9 + r) (tk.map (Value.int .u8))) 1 kL := (hT1.up n2).of_block (Q3.block _ hq)
      have r3 : Rd (w2.setCells q (o + 9 + r) (tk.map (Value.int .u8))) g (some ⟨g, o1, none⟩) .u8 xs1 := (hr1.up n2).of_block (Q3.block _ hgq)
      have c3 := H3.c0
      have f3 := H3.f0
      have H4 := H3.setL ((L1 : Int) + (t : Int))
      have Q4 := Only.setCell (w2.setCells q (o + 9 + r) (tk.map (Value.int .u8))) q o (.int .i64 ((L1 : Int) + (t : Int)))
      have B4 := B3.trans (Bx.setL _ (.int .i64 ((L1 : Int) + (t : Int))))
      have T4 := T3.of_block (Q4.block _ hq)
      have r4 := r3.of_block (Q4.block _ hgq)
      have t0 : 0 < t := by omega
      have tn : t ≤ n1 := by omega
      have tr : r + t ≤ 64 := by omega
      have tn' : (t : Int) ≤ (n1 : Int) := by omega
      have nc' : (n1 : Int) ≤ (c1 : Int) := by have := HN.out; omega
      have nb' : (L1 : Int) + (n1 : Int) ≤ 1152921504606846976 := by have := hL1.out; have := HN.out; omega
      have TT : Hid (t = min (64 - r) n1) := ht
      have TK := hide htk
      have TL := hide tl
      clear ht htk tl hH1 RG LH H2 H3 B3 T3 r3 Q3 Q4 hB1 hT1 hr1 hcc n2
      rw [hrun]
      clear hrun
      generalize w2.setCells q (o + 9 + r) (tk.map (Value.int .u8)) = w3 at *
      have ly := lay_byt (r := r) hR1 (show Byt tk by rw [TK.out]; exact byt_takeh hx1 t)
      have mk : Hid ((lay R1 r tk).take (r + t) = R1.take r ++ tk) := by show _ = _; rw [← TL.out]; exact take_more (by rw [RN.out]; omega)
      have RG := H4.range
      have L4 := H4.len
      have RS := restSize_32 (w3.setCell ⟨q, o, none⟩ (.int .i64 ((L1 : Int) + (t : Int)))) ((L1 : Int) + (t : Int)) C1 (lay R1 r tk) L4 (by omega)
      have LH := hide (hcl_len .u32 ((L1 : Int) + (t : Int)) C1 L4)
      generalize hcl .u32 ((L1 : Int) + (t : Int)) C1 (lay R1 r tk) = vs4 at *
      have RSH := hide RS
      have L4H := hide L4
      clear RS L4
      by_cases hct : c1 = t
      · have hct2 := hct.symm
        subst hct2
        go_wp2_with (refine wpList_load_mid rfl 76 (.tmp 34) rfl q o rfl vs4 d RG hd hrow (by rw [LH.out]; exact infoH_32) ?_)
        generalize w3.setCell ⟨q, o, none⟩ (.int .i64 ((L1 : Int) + (t : Int))) = w4 at *
        refine RSH.out.mono ?_
        rintro x w5 ⟨rfl, n5⟩
        have H5 := H4.up n5
        have B5 := B4.trans (Bx.of_below n5 H4.lt)
        have T5 := T4.up n5
        have r5 : Rd w5 g (some ⟨g, o1, none⟩) .u8 (xs1.drop t) := by rw [List.drop_eq_nil_of_le (by have := HN.out; omega)]; exact Rd.nil _ _ _ _
        have dl : Hid ((xs1.drop t).length = n1 - t) := by show _ = _; rw [List.length_drop, HN.out]
        clear RSH RG LH H4 B4 T4 r4 n5 c3 f3
        by_cases hf : r + t = 64
        · have z5 : ((L1 : Int) + (t : Int)) % 64 = 0 := by have := ER.out; omega
          have bl : ((lay R1 r tk).take 64).length = 64 := by rw [List.length_take, L4H.out]; omega
          have bb : Byt ((lay R1 r tk).take 64) := byt_takeh ly _
          have be : (lay R1 r tk).take 64 = R1.take r ++ tk := by rw [← hf]; exact mk.out
          have rb : ∀ W, Below w5.heap.size w5 W → Rd W q (some ⟨q, o + 9, none⟩) .u8 ((lay R1 r tk).take 64) := fun W n _ => ⟨o + 9, rfl, fun i hi => by
            have h := ((H5.up n).rs i (by rw [L4H.out]; omega)).1
            rw [List.getD_eq_getElem?_getD, List.getElem?_take, if_pos (by omega), ← List.getD_eq_getElem?_getD]
            exact h⟩
          obtain ⟨C2, hC2⟩ : ∃ s, s = blk32 C1 (wd 4 ((lay R1 r tk).take 64)) := ⟨_, rfl⟩
          have oC2 : Ok32 C2 := by rw [hC2]; exact blk_ok32 _ _
          have HC2 := hide hC2
          go_wp2_with fail
          refine region_put 10 9 7 47 45 _ (fun i => [Fact.eq (.pointer (some ⟨q, o, none⟩)), Fact.eq (.pointer (some ⟨q, o, none⟩)), Fact.eq (.pointer (some ⟨q, o, none⟩)), Fact.eq (.pointer (some ⟨q, o + 1, none⟩)), Fact.eq (ag8 .u32 C1), Fact.eq (.slice (some ⟨q, o + 9, none⟩) 64 128), Fact.eq (agw .u32 (wd 4 ((lay R1 r tk).take 64))), Fact.eq (ag8 .u32 C2), Fact.eq (.pointer (some ⟨q, o, none⟩)), Fact.eq (.pointer (some ⟨q, o + 1, none⟩))].getD i Fact.no) q (o + 1) 73 (C2.l.map (Value.int .u32)) (by kernel_rfl) (by kernel_rfl) rfl rfl rfl (by kernel_rfl) rfl (by kernel_rfl) rfl ?_ (by rw [List.length_map]; kernel_rfl) (one_ints _ _) ?_ ?_
          · intro W n j hj
            rw [List.length_map] at hj
            have h := (H5.up n).ch j hj
            exact ⟨by rw [h.1]; rfl, h.2⟩
          · skip
            intro i hi
            obtain rfl | rfl | rfl | rfl | rfl | rfl | rfl | rfl | rfl | rfl : i = 0 ∨ i = 1 ∨ i = 2 ∨ i = 3 ∨ i = 4 ∨ i = 5 ∨ i = 6 ∨ i = 7 ∨ i = 8 ∨ i = 9 := by omega
            · refine step_pure rfl fun a w hb hw hf => ?_
              have e0 : a.tmps[0]?.getD undef = .pointer (some ⟨q, o, none⟩) := gdv (hb.2.2 0 (by kernel_rfl))
              exact ⟨.pointer (some ⟨q, o, none⟩), by simp [go_sem, e0], rfl⟩
            · refine step_pure rfl fun a w hb hw hf => ?_
              have e0 : a.tmps[0]?.getD undef = .pointer (some ⟨q, o, none⟩) := gdv (hb.2.2 0 (by kernel_rfl))
              exact ⟨.pointer (some ⟨q, o, none⟩), by simp [go_sem, e0], rfl⟩
            · refine step_pure rfl fun a w hb hw hf => ?_
              have e39 : a.tmps[39]?.getD undef = .pointer (some ⟨q, o, none⟩) := gdv (hf 1 39 (by kernel_rfl))
              exact ⟨.pointer (some ⟨q, o, none⟩), by simp [go_sem, e39], rfl⟩
            · refine step_pure rfl fun a w hb hw hf => ?_
              have e40 : a.tmps[40]?.getD undef = .pointer (some ⟨q, o, none⟩) := gdv (hf 2 40 (by kernel_rfl))
              exact ⟨.pointer (some ⟨q, o + 1, none⟩), by simp [go_sem, e40], rfl⟩
            · refine step_load rfl 73 (.tmp 41) rfl (.array 8 71) 8 (by kernel_rfl) rfl (by kernel_rfl) fun a w hb hw hf => ⟨q, o + 1, C1.l.map (Value.int .u32), hf 3 41 (by kernel_rfl), (H5.up hw).ch.range, by rw [List.length_map]; rfl, rfl⟩
            · refine step_pure rfl fun a w hb hw hf => ?_
              have e4 : a.tmps[4]?.getD undef = .slice (some ⟨q, o + 9, none⟩) 64 128 := gdv (hb.2.2 4 (by kernel_rfl))
              exact ⟨.slice (some ⟨q, o + 9, none⟩) 64 128, by simp [go_sem, e4], rfl⟩
            · refine step_callv rfl 78 _ _ rfl (by kernel_rfl) fun a w hb hw hf => ?_
              have e43 : a.tmps.getD 43 undef = .slice (some ⟨q, o + 9, none⟩) 64 128 := hf 5 43 (by kernel_rfl)
              show Calls Tryz.prog 78 #[a.tmps.getD 43 undef] w _
              rw [e43]
              exact (readBlock_32 w q (some ⟨q, o + 9, none⟩) 128 _ (rb w hw) bb bl).mono (by rintro r w' ⟨rfl, n⟩; exact ⟨_, rfl, n, rfl⟩)
            · refine step_callv rfl 77 _ _ rfl (by kernel_rfl) fun a w hb hw hf => ?_
              have e42 : a.tmps.getD 42 undef = ag8 .u32 C1 := hf 4 42 (by kernel_rfl)
              have e44 : a.tmps.getD 44 undef = agw .u32 (wd 4 ((lay R1 r tk).take 64)) := hf 6 44 (by kernel_rfl)
              show Calls Tryz.prog 77 #[a.tmps.getD 42 undef, a.tmps.getD 44 undef] w _
              rw [e42, e44]
              rw [HC2.out]; exact (behind_32 w C1 hC1 _ (fun i _ => wd_32 bb i) (T5.up hw)).mono (by rintro r w' ⟨rfl, n⟩; exact ⟨_, rfl, n, rfl⟩)
            · refine step_pure rfl fun a w hb hw hf => ?_
              have e38 : a.tmps[38]?.getD undef = .pointer (some ⟨q, o, none⟩) := gdv (hf 0 38 (by kernel_rfl))
              exact ⟨.pointer (some ⟨q, o, none⟩), by simp [go_sem, e38], rfl⟩
            · refine step_pure rfl fun a w hb hw hf => ?_
              have e46 : a.tmps[46]?.getD undef = .pointer (some ⟨q, o, none⟩) := gdv (hf 8 46 (by kernel_rfl))
              exact ⟨.pointer (some ⟨q, o + 1, none⟩), by simp [go_sem, e46], rfl⟩
          intro vs6 W n6
          have H6 := (H5.up n6).setC C2
          have Q6 := only_setCells W q (C2.l.map (Value.int .u32)) (o + 1)
          have B6 := (B5.trans (Bx.of_below n6 H5.lt)).trans (Bx.cells W (o + 1) (C2.l.map (Value.int .u32)) (by omega) (by rw [List.length_map, S8.l_len]; omega))
          have T6 := (T5.up n6).of_block (Q6.block _ hq)
          have r6 := (r5.up n6).of_block (Q6.block _ hgq)
          simp only [puts, Act.put, List.setIfInBounds_toArray, List.set_cons_succ, List.set_cons_zero]
          generalize W.setCells q (o + 1) (C2.l.map (Value.int .u32)) = w6 at *
          have lf : (L1 + t) % 64 = 0 := by have := ER.out; omega
          have whx : xs1 = tk ++ xs1.drop t := by rw [TK.out]; exact (List.take_append_drop t xs1).symm
          have KW : Hid (whole32 C2 ((lay R1 r tk).take ((L1 + t) % 64) ++ xs1.drop t) = Wt) := by
            show _ = _
            rw [lf, List.take_zero, List.nil_append, ← hW1.out, ← ER.out]
            conv => rhs; rw [whx, ← List.append_assoc, ← be, whole_app32 _ _ _ bl, ← HC2.out]
          have KF : Hid (left32 ((lay R1 r tk).take ((L1 + t) % 64) ++ xs1.drop t) = Lf) := by
            show _ = _
            rw [lf, List.take_zero, List.nil_append, ← hF1.out, ← ER.out]
            conv => rhs; rw [whx, ← List.append_assoc, ← be, left_app32 _ _ bl]
          clear mk bl bb be rb lf whx
          go_wp2
          go_roundw
          case rel => exact ⟨L1 + t, 0, C2, lay R1 r tk, xs1.drop t, _, by rw [dl.out], by rw [Int.natCast_add]; exact H6, oC2, ly, r6, byt_drop hx1 t, by rw [dl.out]; have := HN.out; omega, by rw [dl.out]; have := HN.out; omega, by show _ = _; rw [dl.out]; have := hL1.out; have := HN.out; omega, KW, KF, T6, B6⟩
          case measure => simp only [vlen_slice]; omega
        · have z5 : (((L1 : Int) + (t : Int)) % 64 == 0) = false := by have := ER.out; simp; omega
          obtain rfl : t = n1 := by have := TT.out; omega
          have lf : (L1 + t) % 64 = r + t := by have := ER.out; omega
          have dn : xs1.drop t = [] := List.drop_eq_nil_of_le (by rw [HN.out]; exact Nat.le_refl _)
          have tx : tk = xs1 := by rw [TK.out]; exact List.take_of_length_le (by rw [HN.out]; exact Nat.le_refl _)
          have KW : Hid (whole32 C1 ((lay R1 r tk).take ((L1 + t) % 64) ++ xs1.drop t) = Wt) := by
            show _ = _
            rw [lf, mk.out, dn, List.append_nil, tx, ER.out]
            exact hW1.out
          have KF : Hid (left32 ((lay R1 r tk).take ((L1 + t) % 64) ++ xs1.drop t) = Lf) := by
            show _ = _
            rw [lf, mk.out, dn, List.append_nil, tx, ER.out]
            exact hF1.out
          clear mk lf dn tx
          go_wp2
          go_roundw
          case rel => exact ⟨L1 + t, 0, C1, lay R1 r tk, xs1.drop t, _, by rw [dl.out, Nat.sub_self], by rw [Int.natCast_add]; exact H5, hC1, ly, r5, byt_drop hx1 t, by rw [dl.out]; have := HN.out; omega, by rw [dl.out]; have := HN.out; omega, by show _ = _; rw [dl.out]; have := hL1.out; have := HN.out; omega, KW, KF, T5, B5⟩
          case measure => simp only [vlen_slice]; omega
      · have hct' : ¬ ((c1 : Int) = (t : Int)) := by omega
        go_wp2_with (refine wpList_load_mid rfl 76 (.tmp 34) rfl q o rfl vs4 d RG hd hrow (by rw [LH.out]; exact infoH_32) ?_)
        generalize w3.setCell ⟨q, o, none⟩ (.int .i64 ((L1 : Int) + (t : Int))) = w4 at *
        refine RSH.out.mono ?_
        rintro x w5 ⟨rfl, n5⟩
        have H5 := H4.up n5
        have B5 := B4.trans (Bx.of_below n5 H4.lt)
        have T5 := T4.up n5
        have r5 : Rd w5 g (some ⟨g, o1 + t, none⟩) .u8 (xs1.drop t) := rd_drop (t := t) (r4.up n5)
        have dl : Hid ((xs1.drop t).length = n1 - t) := by show _ = _; rw [List.length_drop, HN.out]
        clear RSH RG LH H4 B4 T4 r4 n5 c3 f3
        by_cases hf : r + t = 64
        · have z5 : ((L1 : Int) + (t : Int)) % 64 = 0 := by have := ER.out; omega
          have bl : ((lay R1 r tk).take 64).length = 64 := by rw [List.length_take, L4H.out]; omega
          have bb : Byt ((lay R1 r tk).take 64) := byt_takeh ly _
          have be : (lay R1 r tk).take 64 = R1.take r ++ tk := by rw [← hf]; exact mk.out
          have rb : ∀ W, Below w5.heap.size w5 W → Rd W q (some ⟨q, o + 9, none⟩) .u8 ((lay R1 r tk).take 64) := fun W n _ => ⟨o + 9, rfl, fun i hi => by
            have h := ((H5.up n).rs i (by rw [L4H.out]; omega)).1
            rw [List.getD_eq_getElem?_getD, List.getElem?_take, if_pos (by omega), ← List.getD_eq_getElem?_getD]
            exact h⟩
          obtain ⟨C2, hC2⟩ : ∃ s, s = blk32 C1 (wd 4 ((lay R1 r tk).take 64)) := ⟨_, rfl⟩
          have oC2 : Ok32 C2 := by rw [hC2]; exact blk_ok32 _ _
          have HC2 := hide hC2
          go_wp2_with fail
          refine region_put 10 9 7 47 45 _ (fun i => [Fact.eq (.pointer (some ⟨q, o, none⟩)), Fact.eq (.pointer (some ⟨q, o, none⟩)), Fact.eq (.pointer (some ⟨q, o, none⟩)), Fact.eq (.pointer (some ⟨q, o + 1, none⟩)), Fact.eq (ag8 .u32 C1), Fact.eq (.slice (some ⟨q, o + 9, none⟩) 64 128), Fact.eq (agw .u32 (wd 4 ((lay R1 r tk).take 64))), Fact.eq (ag8 .u32 C2), Fact.eq (.pointer (some ⟨q, o, none⟩)), Fact.eq (.pointer (some ⟨q, o + 1, none⟩))].getD i Fact.no) q (o + 1) 73 (C2.l.map (Value.int .u32)) (by kernel_rfl) (by kernel_rfl) rfl rfl rfl (by kernel_rfl) rfl (by kernel_rfl) rfl ?_ (by rw [List.length_map]; kernel_rfl) (one_ints _ _) ?_ ?_
          · intro W n j hj
            rw [List.length_map] at hj
            have h := (H5.up n).ch j hj
            exact ⟨by rw [h.1]; rfl, h.2⟩
          · skip
            intro i hi
            obtain rfl | rfl | rfl | rfl | rfl | rfl | rfl | rfl | rfl | rfl : i = 0 ∨ i = 1 ∨ i = 2 ∨ i = 3 ∨ i = 4 ∨ i = 5 ∨ i = 6 ∨ i = 7 ∨ i = 8 ∨ i = 9 := by omega
            · refine step_pure rfl fun a w hb hw hf => ?_
              have e0 : a.tmps[0]?.getD undef = .pointer (some ⟨q, o, none⟩) := gdv (hb.2.2 0 (by kernel_rfl))
              exact ⟨.pointer (some ⟨q, o, none⟩), by simp [go_sem, e0], rfl⟩
            · refine step_pure rfl fun a w hb hw hf => ?_
              have e0 : a.tmps[0]?.getD undef = .pointer (some ⟨q, o, none⟩) := gdv (hb.2.2 0 (by kernel_rfl))
              exact ⟨.pointer (some ⟨q, o, none⟩), by simp [go_sem, e0], rfl⟩
            · refine step_pure rfl fun a w hb hw hf => ?_
              have e39 : a.tmps[39]?.getD undef = .pointer (some ⟨q, o, none⟩) := gdv (hf 1 39 (by kernel_rfl))
              exact ⟨.pointer (some ⟨q, o, none⟩), by simp [go_sem, e39], rfl⟩
            · refine step_pure rfl fun a w hb hw hf => ?_
              have e40 : a.tmps[40]?.getD undef = .pointer (some ⟨q, o, none⟩) := gdv (hf 2 40 (by kernel_rfl))
              exact ⟨.pointer (some ⟨q, o + 1, none⟩), by simp [go_sem, e40], rfl⟩
            · refine step_load rfl 73 (.tmp 41) rfl (.array 8 71) 8 (by kernel_rfl) rfl (by kernel_rfl) fun a w hb hw hf => ⟨q, o + 1, C1.l.map (Value.int .u32), hf 3 41 (by kernel_rfl), (H5.up hw).ch.range, by rw [List.length_map]; rfl, rfl⟩
            · refine step_pure rfl fun a w hb hw hf => ?_
              have e4 : a.tmps[4]?.getD undef = .slice (some ⟨q, o + 9, none⟩) 64 128 := gdv (hb.2.2 4 (by kernel_rfl))
              exact ⟨.slice (some ⟨q, o + 9, none⟩) 64 128, by simp [go_sem, e4], rfl⟩
            · refine step_callv rfl 78 _ _ rfl (by kernel_rfl) fun a w hb hw hf => ?_
              have e43 : a.tmps.getD 43 undef = .slice (some ⟨q, o + 9, none⟩) 64 128 := hf 5 43 (by kernel_rfl)
              show Calls Tryz.prog 78 #[a.tmps.getD 43 undef] w _
              rw [e43]
              exact (readBlock_32 w q (some ⟨q, o + 9, none⟩) 128 _ (rb w hw) bb bl).mono (by rintro r w' ⟨rfl, n⟩; exact ⟨_, rfl, n, rfl⟩)
            · refine step_callv rfl 77 _ _ rfl (by kernel_rfl) fun a w hb hw hf => ?_
              have e42 : a.tmps.getD 42 undef = ag8 .u32 C1 := hf 4 42 (by kernel_rfl)
              have e44 : a.tmps.getD 44 undef = agw .u32 (wd 4 ((lay R1 r tk).take 64)) := hf 6 44 (by kernel_rfl)
              show Calls Tryz.prog 77 #[a.tmps.getD 42 undef, a.tmps.getD 44 undef] w _
              rw [e42, e44]
              rw [HC2.out]; exact (behind_32 w C1 hC1 _ (fun i _ => wd_32 bb i) (T5.up hw)).mono (by rintro r w' ⟨rfl, n⟩; exact ⟨_, rfl, n, rfl⟩)
            · refine step_pure rfl fun a w hb hw hf => ?_
              have e38 : a.tmps[38]?.getD undef = .pointer (some ⟨q, o, none⟩) := gdv (hf 0 38 (by kernel_rfl))
              exact ⟨.pointer (some ⟨q, o, none⟩), by simp [go_sem, e38], rfl⟩
            · refine step_pure rfl fun a w hb hw hf => ?_
              have e46 : a.tmps[46]?.getD undef = .pointer (some ⟨q, o, none⟩) := gdv (hf 8 46 (by kernel_rfl))
              exact ⟨.pointer (some ⟨q, o + 1, none⟩), by simp [go_sem, e46], rfl⟩
          intro vs6 W n6
          have H6 := (H5.up n6).setC C2
          have Q6 := only_setCells W q (C2.l.map (Value.int .u32)) (o + 1)
          have B6 := (B5.trans (Bx.of_below n6 H5.lt)).trans (Bx.cells W (o + 1) (C2.l.map (Value.int .u32)) (by omega) (by rw [List.length_map, S8.l_len]; omega))
          have T6 := (T5.up n6).of_block (Q6.block _ hq)
          have r6 := (r5.up n6).of_block (Q6.block _ hgq)
          simp only [puts, Act.put, List.setIfInBounds_toArray, List.set_cons_succ, List.set_cons_zero]
          generalize W.setCells q (o + 1) (C2.l.map (Value.int .u32)) = w6 at *
          have lf : (L1 + t) % 64 = 0 := by have := ER.out; omega
          have whx : xs1 = tk ++ xs1.drop t := by rw [TK.out]; exact (List.take_append_drop t xs1).symm
          have KW : Hid (whole32 C2 ((lay R1 r tk).take ((L1 + t) % 64) ++ xs1.drop t) = Wt) := by
            show _ = _
            rw [lf, List.take_zero, List.nil_append, ← hW1.out, ← ER.out]
            conv => rhs; rw [whx, ← List.append_assoc, ← be, whole_app32 _ _ _ bl, ← HC2.out]
          have KF : Hid (left32 ((lay R1 r tk).take ((L1 + t) % 64) ++ xs1.drop t) = Lf) := by
            show _ = _
            rw [lf, List.take_zero, List.nil_append, ← hF1.out, ← ER.out]
            conv => rhs; rw [whx, ← List.append_assoc, ← be, left_app32 _ _ bl]
          clear mk bl bb be rb lf whx
          go_wp2
          go_roundw
          case rel => exact ⟨L1 + t, c1 - t, C2, lay R1 r tk, xs1.drop t, _, by rw [dl.out], by rw [Int.natCast_add]; exact H6, oC2, ly, r6, byt_drop hx1 t, by rw [dl.out]; have := HN.out; omega, by rw [dl.out]; have := HN.out; omega, by show _ = _; rw [dl.out]; have := hL1.out; have := HN.out; omega, KW, KF, T6, B6⟩
          case measure => simp only [vlen_slice]; omega
        · have z5 : (((L1 : Int) + (t : Int)) % 64 == 0) = false := by have := ER.out; simp; omega
          obtain rfl : t = n1 := by have := TT.out; omega
          have lf : (L1 + t) % 64 = r + t := by have := ER.out; omega
          have dn : xs1.drop t = [] := List.drop_eq_nil_of_le (by rw [HN.out]; exact Nat.le_refl _)
          have tx : tk = xs1 := by rw [TK.out]; exact List.take_of_length_le (by rw [HN.out]; exact Nat.le_refl _)
          have KW : Hid (whole32 C1 ((lay R1 r tk).take ((L1 + t) % 64) ++ xs1.drop t) = Wt) := by
            show _ = _
            rw [lf, mk.out, dn, List.append_nil, tx, ER.out]
            exact hW1.out
          have KF : Hid (left32 ((lay R1 r tk).take ((L1 + t) % 64) ++ xs1.drop t) = Lf) := by
            show _ = _
            rw [lf, mk.out, dn, List.append_nil, tx, ER.out]
            exact hF1.out
          clear mk lf dn tx
          go_wp2
          go_roundw
          case rel => exact ⟨L1 + t, c1 - t, C1, lay R1 r tk, xs1.drop t, _, by rw [dl.out, Nat.sub_self], by rw [Int.natCast_add]; exact H5, hC1, ly, r5, byt_drop hx1 t, by rw [dl.out]; have := HN.out; omega, by rw [dl.out]; have := HN.out; omega, by show _ = _; rw [dl.out]; have := hL1.out; have := HN.out; omega, KW, KF, T5, B5⟩
          case measure => simp only [vlen_slice]; omega
    · obtain rfl : xs1 = [] := List.eq_nil_of_length_eq_zero (by omega)
      have e1 : L1 = Lt := by have := hL1.out; simpa using this
      have sh : (R1.take (L1 % 64)).length < 64 := by rw [List.length_take]; omega
      have e2 : C1 = Wt := by have := hW1.out; rw [List.append_nil, whole_short32 _ sh] at this; exact this
      have e3 : R1.take (L1 % 64) = Lf := by have := hF1.out; rw [List.append_nil, left_short32 sh] at this; exact this
      have E := hide (And.intro e1 (And.intro e2 e3))
      clear e1 e2 e3 sh hL1 hW1 hF1
      go_wp2
      obtain ⟨e1, e2, e3⟩ := E.out
      subst e1 e2
      exact bodyPost_end (v := .tuple #[]) (by simp [results, Tryz.results47, go_sem]) rfl ⟨rfl, R1, hH1, hR1, e3, hB1⟩
end Go.Proofs.YtmfajpplagbfcaaGreatDoor
