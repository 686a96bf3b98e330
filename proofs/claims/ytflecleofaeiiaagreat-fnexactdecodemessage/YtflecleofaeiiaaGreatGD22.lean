import Derived.Test.YtflecleofaeiiaaGreatGD21
import Derived.Test.YtflecleofaeiiaaGreatGD4
import Derived.Test.YtflecleofaeiiaaGreatGD9
import Derived.Test.YtflecleofaeiiaaGreatGD19

/-
  The laws' helpers on a message that a call made: markMessage, heldMessage (written by gens/mdd.py).
-/
namespace Go.Proofs.YtflecleofaeiiaaGreat
open Go Go.RowKit

theorem cellMd {w w' : World} {b hi q i : Nat} {x : Value} (n : Ch b hi w w') (h : w.cell? ⟨q, i, none⟩ = some x) (hq : hi ≤ q) : w'.cell? ⟨q, i, none⟩ = some x :=
  (World.cell?_of_block (a := ⟨q, i, none⟩) (n.block q (block_lt_of_cell h) (.inr hq))).trans h
theorem MkdB.ch {W W' : World} {v : Value} {its : List (List Int)} {bs : List Plc} {n : Int} {lo hi : Nat} (h : MkdB W v its bs n) (C : Ch lo hi W W') (hg : ∀ g c, v = .slice (some ⟨g, 0, none⟩) its.length c → 0 < its.length → g < lo) (hq : ∀ i, i < its.length → 0 < (its.getD i []).length → (bs.getD i plc0).q < lo) : MkdB W' v its bs n := fun g c e i hi' => by
  have P := h g c e i hi'
  have hl := hg g c e (by omega)
  refine ⟨(World.cell?_of_block (a := ⟨g, i, none⟩) (C.block g (block_lt_of_cell P.1) (.inl hl))).trans P.1, own_ch P.2 fun h0 => ?_⟩
  exact C.block _ (P.2.rd.lt h0) (.inl (hq i hi' (by rw [marks_len] at h0; exact h0)))
set_option maxRecDepth 100000 in
set_option maxHeartbeats 4000000 in
theorem markMessage_ans (w : World) (F : Nat → Nat) (p : MQ) (m : Msg) (bs : List Plc) (h : AnsM w F p m bs) (tp : F 7 ≤ w.heap.size) (sm : SmM m) :
    Calls Tryz.prog 26 #[.agg (mgV p m), .int .i64 1] w fun e w' => e = .returned (.int .i64 (mN12 m)) ∧ MkM w' p m bs ∧ Ch (F 0) (F 7) w w' := by
  have n1 : Below w.heap.size w (w.alloc (.cells (mgV p m) 26)) := (Below.refl _ _).alloc (Nat.le_refl _) _
  have P0 : RwC (w.alloc (.cells (mgV p m) 26)) w.heap.size (mgV p m).toList 26 := RwC.new w (mgV p m).toList 26
  have H := h.up n1
  have N1 := hide n1
  have mo := h.mono
  have la := sm.a
  have lc := sm.c
  have lz := hide sm.z
  have lf := sm.f
  have q5 : Hid (0 < m.pr.length → ∀ b, Value.ownBlock (.slice p.a5 m.pr.length p.c5) = some b → F 2 ≤ b ∧ b < F 3) := fun h0 b hb => by
    have h1 := (World.ownsRow.lt h.pr b hb).1
    have h2 := h.b5 h0
    rw [h2.1] at hb
    have e : p.g5 = b := Option.some.inj hb
    omega
  have PB := hide (psB_bd (n := (mN9 m : Int)) (its := m.ce) (by omega) sm.z m.ce.length (Nat.le_refl _))
  clear h n1 sm
  obtain ⟨n2, e2⟩ : ∃ n, Hid (mN2 m = n) := ⟨_, rfl⟩
  obtain ⟨n3, e3⟩ : ∃ n, Hid (mN3 m = n) := ⟨_, rfl⟩
  obtain ⟨n5, e5⟩ : ∃ n, Hid (mN5 m = n) := ⟨_, rfl⟩
  obtain ⟨n6, e6⟩ : ∃ n, Hid (mN6 m = n) := ⟨_, rfl⟩
  obtain ⟨n9, e9⟩ : ∃ n, Hid (mN9 m = n) := ⟨_, rfl⟩
  obtain ⟨n11, e11⟩ : ∃ n, Hid (mN11 m = n) := ⟨_, rfl⟩
  obtain ⟨n12, e12⟩ : ∃ n, Hid (mN12 m = n) := ⟨_, rfl⟩
  have f2 : Hid (1 + m.r.length = n2) := e2
  have f3 : Hid (n2 + m.s.length = n3) := by show _ = _; rw [← e2.out]; exact e3.out
  have f5 : Hid (n3 + m.pr.length = n5) := by show _ = _; rw [← e3.out]; exact e5.out
  have f6 : Hid (n5 + m.ti.length = n6) := by show _ = _; rw [← e5.out]; exact e6.out
  have f9 : Hid (n6 + m.bi.length = n9) := by show _ = _; rw [← e6.out]; exact e9.out
  have f11 : Hid (psB m.ce (n9 : Int) m.ce.length = n11) := by show _ = _; rw [← e9.out]; exact e11.out
  have f12 : Hid (n11 + (m.pf.length : Int) = n12) := by show _ = _; rw [← e11.out]; exact e12.out
  have k2 : n2 ≤ 901 := by rw [← f2.out]; omega
  have k3 : n3 ≤ 901 := by rw [← f3.out, ← f2.out]; omega
  have k5 : n5 ≤ 901 := by rw [← f5.out, ← f3.out, ← f2.out]; omega
  have k6 : n6 ≤ 901 := by rw [← f6.out, ← f5.out, ← f3.out, ← f2.out]; omega
  have k9 : n9 ≤ 901 := by rw [← f9.out, ← f6.out, ← f5.out, ← f3.out, ← f2.out]; omega
  have k11 : 0 ≤ n11 ∧ n11 ≤ 901 + 1000 * 2048 := by
    have := PB.out
    rw [show psB m.ce (mN9 m : Int) m.ce.length = n11 from e11.out, e9.out] at this
    omega
  rw [e12.out]
  clear PB
  go_enter Tryz.func26, Tryz.ntmps26
  go_upto_region 1 with fail
  generalize w.alloc (.cells (mgV p m) 26) = wa at *
  have C2 : Hid (wa.cell? ⟨w.heap.size, 2, none⟩ = some (.slice p.a2 m.r.length p.c2)) := P0.cell 2
  have C3 : Hid (wa.cell? ⟨w.heap.size, 3, none⟩ = some (.slice p.a3 m.s.length p.c3)) := P0.cell 3
  have C5 : Hid (wa.cell? ⟨w.heap.size, 5, none⟩ = some (.slice p.a5 m.pr.length p.c5)) := P0.cell 5
  have C6 : Hid (wa.cell? ⟨w.heap.size, 6, none⟩ = some (.slice p.a6 m.ti.length p.c6)) := P0.cell 6
  have C9 : Hid (wa.cell? ⟨w.heap.size, 9, none⟩ = some (.slice p.a9 m.bi.length p.c9)) := P0.cell 9
  have C11 : Hid (wa.cell? ⟨w.heap.size, 11, none⟩ = some (.slice p.a11 m.ce.length p.c11)) := P0.cell 11
  have C12 : Hid (wa.cell? ⟨w.heap.size, 12, none⟩ = some (.slice p.a12 m.pf.length p.c12)) := P0.cell 12
  have HH := hide H
  clear P0 H
  have S0 := Ch.refl (F 0) (F 0) wa
  have d2 := cellMd S0 C2.out (by omega)
  have M := hide (markB_ch wa p.g2 (F 0) (F 1) p.a2 p.c2 m.r 1 (own_ch HH.out.r fun h0 => S0.block _ (HH.out.r.rd.lt h0) (.inr (HH.out.b2 h0).1)) HH.out.b2 (by omega) (by omega))
  rw [f2.out] at M
  go_wp2_with fail
  refine M.out.mono ?_
  rintro e w2 ⟨rfl, M2, O2⟩
  have S0' : Ch (F 0) (F 1) wa w2 := (S0.mono (Nat.le_refl _) (by omega)).trans (O2.mono (by omega) (Nat.le_refl _))
  clear S0
  have S0 := S0'
  clear S0'
  have S2 := Ch.refl (F 1) (F 1) w2
  have H2 := hide M2
  clear M M2 O2 d2
  have d3 := cellMd S0 C3.out (by omega)
  have M := hide (markB_ch w2 p.g3 (F 1) (F 2) p.a3 p.c3 m.s n2 (own_ch HH.out.s fun h0 => S0.block _ (HH.out.s.rd.lt h0) (.inr (HH.out.b3 h0).1)) HH.out.b3 (by omega) (by omega))
  rw [f3.out] at M
  go_wp2_with fail
  refine M.out.mono ?_
  rintro e w3 ⟨rfl, M3, O3⟩
  have S0' : Ch (F 0) (F 2) wa w3 := (S0.mono (Nat.le_refl _) (by omega)).trans (O3.mono (by omega) (Nat.le_refl _))
  clear S0
  have S0 := S0'
  clear S0'
  have S2' : Ch (F 1) (F 2) w2 w3 := (S2.mono (Nat.le_refl _) (by omega)).trans (O3.mono (by omega) (Nat.le_refl _))
  clear S2
  have S2 := S2'
  clear S2'
  have S3 := Ch.refl (F 2) (F 2) w3
  have H3 := hide M3
  clear M M3 O3 d3
  have d5 := cellMd S0 C5.out (by omega)
  have M := hide (markT_ch w3 (F 2) (F 2) (F 3) p.a5 p.c5 m.pr n3 (rowT_ch HH.out.pr fun b hb => S0.block b (World.ownsRow.lt HH.out.pr b hb).2 (.inr (World.ownsRow.lt HH.out.pr b hb).1)) q5.out (by omega) (by omega))
  rw [f5.out] at M
  go_wp2_with fail
  refine M.out.mono ?_
  rintro e w5 ⟨rfl, M5, O5⟩
  have S0' : Ch (F 0) (F 3) wa w5 := (S0.mono (Nat.le_refl _) (by omega)).trans (O5.mono (by omega) (Nat.le_refl _))
  clear S0
  have S0 := S0'
  clear S0'
  have S2' : Ch (F 1) (F 3) w2 w5 := (S2.mono (Nat.le_refl _) (by omega)).trans (O5.mono (by omega) (Nat.le_refl _))
  clear S2
  have S2 := S2'
  clear S2'
  have S3' : Ch (F 2) (F 3) w3 w5 := (S3.mono (Nat.le_refl _) (by omega)).trans (O5.mono (by omega) (Nat.le_refl _))
  clear S3
  have S3 := S3'
  clear S3'
  have S5 := Ch.refl (F 3) (F 3) w5
  have H5 := hide M5
  clear M M5 O5 d5
  have d6 := cellMd S0 C6.out (by omega)
  have M := hide (markB_ch w5 p.g6 (F 3) (F 4) p.a6 p.c6 m.ti n5 (own_ch HH.out.ti fun h0 => S0.block _ (HH.out.ti.rd.lt h0) (.inr (HH.out.b6 h0).1)) HH.out.b6 (by omega) (by omega))
  rw [f6.out] at M
  go_wp2_with fail
  refine M.out.mono ?_
  rintro e w6 ⟨rfl, M6, O6⟩
  have S0' : Ch (F 0) (F 4) wa w6 := (S0.mono (Nat.le_refl _) (by omega)).trans (O6.mono (by omega) (Nat.le_refl _))
  clear S0
  have S0 := S0'
  clear S0'
  have S2' : Ch (F 1) (F 4) w2 w6 := (S2.mono (Nat.le_refl _) (by omega)).trans (O6.mono (by omega) (Nat.le_refl _))
  clear S2
  have S2 := S2'
  clear S2'
  have S3' : Ch (F 2) (F 4) w3 w6 := (S3.mono (Nat.le_refl _) (by omega)).trans (O6.mono (by omega) (Nat.le_refl _))
  clear S3
  have S3 := S3'
  clear S3'
  have S5' : Ch (F 3) (F 4) w5 w6 := (S5.mono (Nat.le_refl _) (by omega)).trans (O6.mono (by omega) (Nat.le_refl _))
  clear S5
  have S5 := S5'
  clear S5'
  have S6 := Ch.refl (F 4) (F 4) w6
  have H6 := hide M6
  clear M M6 O6 d6
  have d9 := cellMd S0 C9.out (by omega)
  have M := hide (markB_ch w6 p.g9 (F 4) (F 5) p.a9 p.c9 m.bi n6 (own_ch HH.out.bi fun h0 => S0.block _ (HH.out.bi.rd.lt h0) (.inr (HH.out.b9 h0).1)) HH.out.b9 (by omega) (by omega))
  rw [f9.out] at M
  go_wp2_with fail
  refine M.out.mono ?_
  rintro e w9 ⟨rfl, M9, O9⟩
  have S0' : Ch (F 0) (F 5) wa w9 := (S0.mono (Nat.le_refl _) (by omega)).trans (O9.mono (by omega) (Nat.le_refl _))
  clear S0
  have S0 := S0'
  clear S0'
  have S2' : Ch (F 1) (F 5) w2 w9 := (S2.mono (Nat.le_refl _) (by omega)).trans (O9.mono (by omega) (Nat.le_refl _))
  clear S2
  have S2 := S2'
  clear S2'
  have S3' : Ch (F 2) (F 5) w3 w9 := (S3.mono (Nat.le_refl _) (by omega)).trans (O9.mono (by omega) (Nat.le_refl _))
  clear S3
  have S3 := S3'
  clear S3'
  have S5' : Ch (F 3) (F 5) w5 w9 := (S5.mono (Nat.le_refl _) (by omega)).trans (O9.mono (by omega) (Nat.le_refl _))
  clear S5
  have S5 := S5'
  clear S5'
  have S6' : Ch (F 4) (F 5) w6 w9 := (S6.mono (Nat.le_refl _) (by omega)).trans (O9.mono (by omega) (Nat.le_refl _))
  clear S6
  have S6 := S6'
  clear S6'
  have S9 := Ch.refl (F 5) (F 5) w9
  have H9 := hide M9
  clear M M9 O9 d9
  have d11 := cellMd S0 C11.out (by omega)
  have M := hide (markL_ch w9 (F 5) (F 5) (F 6) (.slice p.a11 m.ce.length p.c11) m.ce bs n9 (HH.out.ce.of fun b hb hB => S0.block b hb (.inr hB)) (fun i hi h0 => ⟨(HH.out.ce.h i hi h0).1, HH.out.bl i hi h0⟩) lc lz.out (by omega))
  rw [f11.out] at M
  go_wp2_with fail
  refine M.out.mono ?_
  rintro e w11 ⟨rfl, M11, O11⟩
  have S0' : Ch (F 0) (F 6) wa w11 := (S0.mono (Nat.le_refl _) (by omega)).trans (O11.mono (by omega) (Nat.le_refl _))
  clear S0
  have S0 := S0'
  clear S0'
  have S2' : Ch (F 1) (F 6) w2 w11 := (S2.mono (Nat.le_refl _) (by omega)).trans (O11.mono (by omega) (Nat.le_refl _))
  clear S2
  have S2 := S2'
  clear S2'
  have S3' : Ch (F 2) (F 6) w3 w11 := (S3.mono (Nat.le_refl _) (by omega)).trans (O11.mono (by omega) (Nat.le_refl _))
  clear S3
  have S3 := S3'
  clear S3'
  have S5' : Ch (F 3) (F 6) w5 w11 := (S5.mono (Nat.le_refl _) (by omega)).trans (O11.mono (by omega) (Nat.le_refl _))
  clear S5
  have S5 := S5'
  clear S5'
  have S6' : Ch (F 4) (F 6) w6 w11 := (S6.mono (Nat.le_refl _) (by omega)).trans (O11.mono (by omega) (Nat.le_refl _))
  clear S6
  have S6 := S6'
  clear S6'
  have S9' : Ch (F 5) (F 6) w9 w11 := (S9.mono (Nat.le_refl _) (by omega)).trans (O11.mono (by omega) (Nat.le_refl _))
  clear S9
  have S9 := S9'
  clear S9'
  have S11 := Ch.refl (F 6) (F 6) w11
  have H11 := hide M11
  clear M M11 O11 d11
  have d12 := cellMd S0 C12.out (by omega)
  obtain ⟨y11, hy11⟩ := Int.eq_ofNat_of_zero_le k11.1
  have f12' : (y11 : Int) + (m.pf.length : Int) = n12 := by rw [← hy11]; exact f12.out
  have HY := hide hy11
  subst hy11
  have M := hide (markB_ch w11 p.g12 (F 6) (F 7) p.a12 p.c12 m.pf y11 (own_ch HH.out.pf fun h0 => S0.block _ (HH.out.pf.rd.lt h0) (.inr (HH.out.b12 h0).1)) HH.out.b12 lf (by omega))
  rw [show ((y11 + m.pf.length : Nat) : Int) = n12 by omega] at M
  clear f12'
  go_wp2_with fail
  refine M.out.mono ?_
  rintro e w12 ⟨rfl, M12, O12⟩
  have S0' : Ch (F 0) (F 7) wa w12 := (S0.mono (Nat.le_refl _) (by omega)).trans (O12.mono (by omega) (Nat.le_refl _))
  clear S0
  have S0 := S0'
  clear S0'
  have S2' : Ch (F 1) (F 7) w2 w12 := (S2.mono (Nat.le_refl _) (by omega)).trans (O12.mono (by omega) (Nat.le_refl _))
  clear S2
  have S2 := S2'
  clear S2'
  have S3' : Ch (F 2) (F 7) w3 w12 := (S3.mono (Nat.le_refl _) (by omega)).trans (O12.mono (by omega) (Nat.le_refl _))
  clear S3
  have S3 := S3'
  clear S3'
  have S5' : Ch (F 3) (F 7) w5 w12 := (S5.mono (Nat.le_refl _) (by omega)).trans (O12.mono (by omega) (Nat.le_refl _))
  clear S5
  have S5 := S5'
  clear S5'
  have S6' : Ch (F 4) (F 7) w6 w12 := (S6.mono (Nat.le_refl _) (by omega)).trans (O12.mono (by omega) (Nat.le_refl _))
  clear S6
  have S6 := S6'
  clear S6'
  have S9' : Ch (F 5) (F 7) w9 w12 := (S9.mono (Nat.le_refl _) (by omega)).trans (O12.mono (by omega) (Nat.le_refl _))
  clear S9
  have S9 := S9'
  clear S9'
  have S11' : Ch (F 6) (F 7) w11 w12 := (S11.mono (Nat.le_refl _) (by omega)).trans (O12.mono (by omega) (Nat.le_refl _))
  clear S11
  have S11 := S11'
  clear S11'
  have S12 := Ch.refl (F 7) (F 7) w12
  have H12 := hide M12
  clear M M12 O12 d12
  have FIN : Hid (Ch (F 0) (F 7) w w12) := (Ch.of_below N1.out).trans S0
  have MK : Hid (MkM w12 p m bs) := by
    show MkM _ _ _ _
    refine ⟨?_, ?_, ?_, ?_, ?_, ?_, ?_, ?_⟩
    · exact (own_ch H2.out fun h0 => S2.block _ (H2.out.rd.lt h0) (.inl (HH.out.b2 (by rw [marks_len] at h0; exact h0)).2)).rd
    · rw [e2.out]; exact (own_ch H3.out fun h0 => S3.block _ (H3.out.rd.lt h0) (.inl (HH.out.b3 (by rw [marks_len] at h0; exact h0)).2)).rd
    · rw [e3.out]
      intro h0
      have h0' : 0 < m.pr.length := by rw [mkT_len] at h0; exact h0
      have R := rowT_ch H5.out fun b hb => S5.block b (World.ownsRow.lt H5.out b hb).2 (.inl (q5.out h0' b hb).2)
      obtain ⟨g, c, e, -, -, hc, -⟩ := R.cells h0
      have ea := (HH.out.b5 h0').1
      have eg : p.g5 = g := by rw [ea] at e; exact Option.some.inj (congrArg Value.ownBlock e)
      exact ⟨0, ea, fun i hi => by rw [Nat.zero_add, eg]; exact hc i hi⟩
    · rw [e5.out]; exact (own_ch H6.out fun h0 => S6.block _ (H6.out.rd.lt h0) (.inl (HH.out.b6 (by rw [marks_len] at h0; exact h0)).2)).rd
    · rw [e6.out]; exact (own_ch H9.out fun h0 => S9.block _ (H9.out.rd.lt h0) (.inl (HH.out.b9 (by rw [marks_len] at h0; exact h0)).2)).rd
    · rw [e9.out]
      exact H11.out.ch S11 (fun g c e h0 => by have := HH.out.b11 h0; rw [this.1] at e; cases e; exact this.2) HH.out.bl
    · exact fun h0 => ⟨_, (HH.out.b11 h0).1⟩
    · rw [e11.out]; exact H12.out.rd
  clear S0 S2 S3 S5 S6 S9 S11 S12 H2 H3 H5 H6 H9 H11 H12 N1 HH
  go_wp2
  go_ret
  exact ⟨rfl, MK.out, FIN.out⟩
set_option maxRecDepth 100000 in
set_option maxHeartbeats 4000000 in
theorem heldMessage_mk (w : World) (p : MQ) (m : Msg) (bs : List Plc) (h : MkM w p m bs) (sm : SmM m) :
    Calls Tryz.prog 27 #[.agg (mgV p m), .int .i64 1] w fun e w' => e = .returned (.int .i64 (mN12 m)) ∧ Below w.heap.size w w' := by
  have n1 : Below w.heap.size w (w.alloc (.cells (mgV p m) 26)) := (Below.refl _ _).alloc (Nat.le_refl _) _
  have P0 : RwC (w.alloc (.cells (mgV p m) 26)) w.heap.size (mgV p m).toList 26 := RwC.new w (mgV p m).toList 26
  have H := h.up n1
  have N1 := hide n1
  have la := sm.a
  have lc := sm.c
  have lz := hide sm.z
  have lf := sm.f
  have PB := hide (psB_bd (n := (mN9 m : Int)) (its := m.ce) (by omega) sm.z m.ce.length (Nat.le_refl _))
  clear h n1 sm
  obtain ⟨n2, e2⟩ : ∃ n, Hid (mN2 m = n) := ⟨_, rfl⟩
  obtain ⟨n3, e3⟩ : ∃ n, Hid (mN3 m = n) := ⟨_, rfl⟩
  obtain ⟨n5, e5⟩ : ∃ n, Hid (mN5 m = n) := ⟨_, rfl⟩
  obtain ⟨n6, e6⟩ : ∃ n, Hid (mN6 m = n) := ⟨_, rfl⟩
  obtain ⟨n9, e9⟩ : ∃ n, Hid (mN9 m = n) := ⟨_, rfl⟩
  obtain ⟨n11, e11⟩ : ∃ n, Hid (mN11 m = n) := ⟨_, rfl⟩
  obtain ⟨n12, e12⟩ : ∃ n, Hid (mN12 m = n) := ⟨_, rfl⟩
  have f2 : Hid (1 + m.r.length = n2) := e2
  have f3 : Hid (n2 + m.s.length = n3) := by show _ = _; rw [← e2.out]; exact e3.out
  have f5 : Hid (n3 + m.pr.length = n5) := by show _ = _; rw [← e3.out]; exact e5.out
  have f6 : Hid (n5 + m.ti.length = n6) := by show _ = _; rw [← e5.out]; exact e6.out
  have f9 : Hid (n6 + m.bi.length = n9) := by show _ = _; rw [← e6.out]; exact e9.out
  have f11 : Hid (psB m.ce (n9 : Int) m.ce.length = n11) := by show _ = _; rw [← e9.out]; exact e11.out
  have f12 : Hid (n11 + (m.pf.length : Int) = n12) := by show _ = _; rw [← e11.out]; exact e12.out
  have k2 : n2 ≤ 901 := by rw [← f2.out]; omega
  have k3 : n3 ≤ 901 := by rw [← f3.out, ← f2.out]; omega
  have k5 : n5 ≤ 901 := by rw [← f5.out, ← f3.out, ← f2.out]; omega
  have k6 : n6 ≤ 901 := by rw [← f6.out, ← f5.out, ← f3.out, ← f2.out]; omega
  have k9 : n9 ≤ 901 := by rw [← f9.out, ← f6.out, ← f5.out, ← f3.out, ← f2.out]; omega
  have k11 : 0 ≤ n11 ∧ n11 ≤ 901 + 1000 * 2048 := by
    have := PB.out
    rw [show psB m.ce (mN9 m : Int) m.ce.length = n11 from e11.out, e9.out] at this
    omega
  rw [e12.out]
  clear PB
  go_enter Tryz.func27, Tryz.ntmps27
  go_upto_region 1 with fail
  generalize w.alloc (.cells (mgV p m) 26) = wa at *
  have C2 : Hid (wa.cell? ⟨w.heap.size, 2, none⟩ = some (.slice p.a2 m.r.length p.c2)) := P0.cell 2
  have C3 : Hid (wa.cell? ⟨w.heap.size, 3, none⟩ = some (.slice p.a3 m.s.length p.c3)) := P0.cell 3
  have C5 : Hid (wa.cell? ⟨w.heap.size, 5, none⟩ = some (.slice p.a5 m.pr.length p.c5)) := P0.cell 5
  have C6 : Hid (wa.cell? ⟨w.heap.size, 6, none⟩ = some (.slice p.a6 m.ti.length p.c6)) := P0.cell 6
  have C9 : Hid (wa.cell? ⟨w.heap.size, 9, none⟩ = some (.slice p.a9 m.bi.length p.c9)) := P0.cell 9
  have C11 : Hid (wa.cell? ⟨w.heap.size, 11, none⟩ = some (.slice p.a11 m.ce.length p.c11)) := P0.cell 11
  have C12 : Hid (wa.cell? ⟨w.heap.size, 12, none⟩ = some (.slice p.a12 m.pf.length p.c12)) := P0.cell 12
  have HH := hide H
  clear P0 H
  have S0 := Below.refl wa.heap.size wa
  have d2 : wa.cell? ⟨w.heap.size, 2, none⟩ = _ := (World.cell?_of_block (a := ⟨w.heap.size, 2, none⟩) (S0.block _ (block_lt_of_cell C2.out))).trans C2.out
  have M := hide (heldByteS_any wa p.g2 p.a2 p.c2 m.r.length ((1 : Nat) : Int) (by exact HH.out.r.up S0) (by omega) (by omega) (by omega))
  rw [show ((1 : Nat) : Int) + (m.r.length : Int) = (n2 : Int) by have := f2.out; omega] at M
  go_wp2_with fail
  refine M.out.mono ?_
  rintro e w2 ⟨rfl, hw⟩
  have S0' : Below wa.heap.size wa w2 := by rw [hw]; exact S0
  clear S0 hw
  have S0 := S0'
  clear S0' M d2
  have d3 : w2.cell? ⟨w.heap.size, 3, none⟩ = _ := (World.cell?_of_block (a := ⟨w.heap.size, 3, none⟩) (S0.block _ (block_lt_of_cell C3.out))).trans C3.out
  have t3 : decide ((n2 : Int) < 0) = false := decide_eq_false (by omega)
  have M := hide (heldByteS_any w2 p.g3 p.a3 p.c3 m.s.length (n2 : Int) (by rw [← e2.out]; exact HH.out.s.up S0) (by omega) (by omega) (by omega))
  rw [show (n2 : Int) + (m.s.length : Int) = (n3 : Int) by have := f3.out; omega] at M
  go_wp2_with fail
  refine M.out.mono ?_
  rintro e w3 ⟨rfl, hw⟩
  have S0' : Below wa.heap.size wa w3 := by rw [hw]; exact S0
  clear S0 hw
  have S0 := S0'
  clear S0' M d3
  have d5 : w3.cell? ⟨w.heap.size, 5, none⟩ = _ := (World.cell?_of_block (a := ⟨w.heap.size, 5, none⟩) (S0.block _ (block_lt_of_cell C5.out))).trans C5.out
  have t5 : decide ((n3 : Int) < 0) = false := decide_eq_false (by omega)
  have M := hide (heldStringS_is w3 p.g5 p.a5 p.c5 n3 m.pr.length (by rw [← e3.out]; exact HH.out.pr.up S0) (by omega) (by omega))
  rw [f5.out] at M
  go_wp2_with fail
  refine M.out.mono ?_
  rintro e w5 ⟨rfl, nn⟩
  have S0' := nxt S0 nn
  clear S0 nn
  have S0 := S0'
  clear S0' M d5
  have d6 : w5.cell? ⟨w.heap.size, 6, none⟩ = _ := (World.cell?_of_block (a := ⟨w.heap.size, 6, none⟩) (S0.block _ (block_lt_of_cell C6.out))).trans C6.out
  have t6 : decide ((n5 : Int) < 0) = false := decide_eq_false (by omega)
  have M := hide (heldByteS_any w5 p.g6 p.a6 p.c6 m.ti.length (n5 : Int) (by rw [← e5.out]; exact HH.out.ti.up S0) (by omega) (by omega) (by omega))
  rw [show (n5 : Int) + (m.ti.length : Int) = (n6 : Int) by have := f6.out; omega] at M
  go_wp2_with fail
  refine M.out.mono ?_
  rintro e w6 ⟨rfl, hw⟩
  have S0' : Below wa.heap.size wa w6 := by rw [hw]; exact S0
  clear S0 hw
  have S0 := S0'
  clear S0' M d6
  have d9 : w6.cell? ⟨w.heap.size, 9, none⟩ = _ := (World.cell?_of_block (a := ⟨w.heap.size, 9, none⟩) (S0.block _ (block_lt_of_cell C9.out))).trans C9.out
  have t9 : decide ((n6 : Int) < 0) = false := decide_eq_false (by omega)
  have M := hide (heldByteS_any w6 p.g9 p.a9 p.c9 m.bi.length (n6 : Int) (by rw [← e6.out]; exact HH.out.bi.up S0) (by omega) (by omega) (by omega))
  rw [show (n6 : Int) + (m.bi.length : Int) = (n9 : Int) by have := f9.out; omega] at M
  go_wp2_with fail
  refine M.out.mono ?_
  rintro e w9 ⟨rfl, hw⟩
  have S0' : Below wa.heap.size wa w9 := by rw [hw]; exact S0
  clear S0 hw
  have S0 := S0'
  clear S0' M d9
  have d11 : w9.cell? ⟨w.heap.size, 11, none⟩ = _ := (World.cell?_of_block (a := ⟨w.heap.size, 11, none⟩) (S0.block _ (block_lt_of_cell C11.out))).trans C11.out
  have t11 : decide ((n9 : Int) < 0) = false := decide_eq_false (by omega)
  have M := hide (heldBlobS_any w9 (.slice p.a11 m.ce.length p.c11) m.ce bs (n9 : Int) ⟨_, _, rfl, HH.out.ca⟩ (by rw [← e9.out]; exact HH.out.ce.up S0) lc lz.out (by omega) (by omega))
  rw [f11.out] at M
  go_wp2_with fail
  refine M.out.mono ?_
  rintro e w11 ⟨rfl, hw⟩
  have S0' : Below wa.heap.size wa w11 := by rw [hw]; exact S0
  clear S0 hw
  have S0 := S0'
  clear S0' M d11
  have d12 : w11.cell? ⟨w.heap.size, 12, none⟩ = _ := (World.cell?_of_block (a := ⟨w.heap.size, 12, none⟩) (S0.block _ (block_lt_of_cell C12.out))).trans C12.out
  have t12 : decide (n11 < 0) = false := decide_eq_false (by omega)
  have M := hide (heldByteS_any w11 p.g12 p.a12 p.c12 m.pf.length n11 (by rw [← e11.out]; exact HH.out.pf.up S0) lf k11.1 (by omega))
  rw [f12.out] at M
  go_wp2_with fail
  refine M.out.mono ?_
  rintro e w12 ⟨rfl, hw⟩
  have S0' : Below wa.heap.size wa w12 := by rw [hw]; exact S0
  clear S0 hw
  have S0 := S0'
  clear S0' M d12
  have t13 : decide (n12 < 0) = false := decide_eq_false (by have := f12.out; omega)
  have FIN := hide (nxt N1.out S0)
  clear S0 N1 HH
  go_wp2
  go_ret
  exact ⟨rfl, FIN.out⟩
end Go.Proofs.YtflecleofaeiiaaGreat

/-
  Slices of a list of bytes, as runs and as steps; no message in sight.
-/
namespace Go.Proofs.YtflecleofaeiiaaGreat
open Go Go.RowKit

/-- Where a part of a list lies. -/
def slA (a : Option Addr) (i c : Nat) : Option Addr := if c = i then a else a.map (·.add (i * 1))
theorem slB_info : (Tryz.prog.info? 5).map (·.size) = some 1 := by kernel_rfl
theorem size_u8 (w : World) : (sizeOf (Tryz.prog.elem 22)).run Tryz.prog w = .ok 1 w := by kernel_rfl
theorem und_s : Tryz.prog.underlying 22 = some (.slice (Tryz.prog.elem 22)) := by kernel_rfl
theorem sl_both (W : World) (a : Option Addr) (n c i j m : Nat) (h1 : i ≤ j) (h2 : j ≤ c) (hm : m = j - i) : (Instr.sliceAt 22 (.slice a n c) (some (.int .i64 (i : Int))) (some (.int .i64 (j : Int))) none).run Tryz.prog W = .ok (.slice (slA a i c) m (c - i)) W := by
  rw [run_sliceAt_slice W 22 _ _ _ _ und_s, run_slice_lh W 22 a n c und_s .i64 .i64 i j (by omega) (by omega) (by omega), size_u8, hm]
  rfl
theorem sl_low (W : World) (a : Option Addr) (n c i m : Nat) (h1 : i ≤ n) (_h2 : n ≤ c) (hm : m = n - i) : (Instr.sliceAt 22 (.slice a n c) (some (.int .i64 (i : Int))) none none).run Tryz.prog W = .ok (.slice (slA a i c) m (c - i)) W := by
  rw [run_sliceAt_slice W 22 _ _ _ _ und_s]
  rw [run_slice_l W 22 a n c und_s .i64 i (by omega) (by omega), size_u8, hm]
  rfl
theorem sl_high (W : World) (a : Option Addr) (n c j : Nat) (h2 : j ≤ c) : (Instr.sliceAt 22 (.slice a n c) none (some (.int .i64 (j : Int))) none).run Tryz.prog W = .ok (.slice (slA a 0 c) j c) W := by
  rw [run_sliceAt_slice W 22 _ _ _ _ und_s, run_slice_h W 22 a n c und_s .i64 j (by omega) (by omega), size_u8]
  rfl
theorem Rd.sl {w : World} {g : Nat} {a : Option Addr} {c : Nat} {xs : List Int} (h : Rd w g a .u8 xs) (hc : xs.length ≤ c) (i n : Nat) : Rd w g (slA a i c) .u8 ((xs.drop i).take n) := fun h0 => by
  rw [List.length_take, List.length_drop] at h0
  have hi : i < xs.length := by omega
  obtain ⟨o, e, hd⟩ := h.dropA i hi
  have ea : slA a i c = some ⟨g, o + i, none⟩ := by
    unfold slA
    rw [if_neg (by omega), e]
    show some (Addr.add ⟨g, o, none⟩ (i * 1)) = _
    rw [add_mid, Nat.mul_one]
  rw [ea]
  exact hd.takeA n (by rw [List.length_take, List.length_drop]; exact h0)
theorem Rd.slD {w : World} {g : Nat} {a : Option Addr} {c : Nat} {xs : List Int} (h : Rd w g a .u8 xs) (hc : xs.length ≤ c) (i : Nat) : Rd w g (slA a i c) .u8 (xs.drop i) := by
  have := h.sl hc i (xs.drop i).length
  rwa [List.take_length] at this
theorem slA_none {a : Option Addr} {i c : Nat} (hz : a = none → c = 0) (h : slA a i c = none) : c - i = 0 := by
  unfold slA at h
  split at h
  · omega
  · rw [Option.map_eq_none_iff] at h
    have := hz h
    omega
theorem wpList_slT {P : Program} (w : World) {ops : Array Oper} {rest : List Oper} {o : Oper} {a : Act} {Q : Exit → Act → World → Prop} (hgd : o.guard = none) (t : TypeId) (x : Operand) (lo hi : Option Operand) (ho : o.op = .slice t x lo hi none) (vx : Value) (vl vh : Option Value) (hx : a.eval x = vx) (hl : lo.map a.eval = vl) (hh : hi.map a.eval = vh)
    (v' : Value) (hr : (Instr.sliceAt t vx vl vh none).run P w = .ok v' w) (h : wpList P ops Q rest (a.put o.dst v') w) : wpList P ops Q (o :: rest) a w :=
  wpList_plain hgd fun _ hK => by
    unfold Oper.wp execOp
    simp only [ho, hx, hl, hh, Option.map_none]
    rw [Sem.run_bind, hr]
    exact hK _ _ h
end Go.Proofs.YtflecleofaeiiaaGreat

/-
  Messages: the model's l13Parse of kind 2 (written by gens/mcp.py).
-/
namespace Go.Proofs.YtflecleofaeiiaaGreat
open Go Go.RowKit

set_option maxRecDepth 100000 in
set_option maxHeartbeats 8000000 in
theorem parseAnswer_any (w : World) (g : Nat) (a : Option Addr) (c : Nat) (xs : List Int) (hr : Rd w g a .u8 xs) (hb : Byt xs) (hx : xs.length ≤ 8192) :
    Calls Tryz.prog 19 #[.int .i64 2, .slice a xs.length c] w fun e w' => (∃ p, e = .returned (.agg (mgV p (rdAnswer xs))) ∧ HasM w' p (rdAnswer xs) ∧ HasZ p (rdAnswer xs) ∧ TyM w' p (rdAnswer xs)) ∧ Below w.heap.size w w' := by
  have P0 : PS w ((((w.alloc (.cells #[.int .i64 0, .int .i64 0, .slice none 0 0, .slice none 0 0, .string ⟨#[]⟩, .slice none 0 0, .slice none 0 0, .int .i64 0, .int .i64 0, .slice none 0 0, .bool false, .slice none 0 0, .slice none 0 0] 26)).alloc (.cells #[.slice a xs.length c, .int .i64 0] 58)).alloc (.cells #[.int .i64 0, .int .i64 0, .slice none 0 0, .slice none 0 0, .string ⟨#[]⟩, .slice none 0 0, .slice none 0 0, .int .i64 0, .int .i64 0, .slice none 0 0, .bool false, .slice none 0 0, .slice none 0 0] 26)).setCells (w.heap.size + 1 + 1) 0 [.int .i64 2, .int .i64 0, .slice none 0 0, .slice none 0 0, .string ⟨#[]⟩, .slice none 0 0, .slice none 0 0, .int .i64 0, .int .i64 0, .slice none 0 0, .bool false, .slice none 0 0, .slice none 0 0]) (.slice a xs.length c) 0 [.int .i64 2, .int .i64 0, .slice none 0 0, .slice none 0 0, .string ⟨#[]⟩, .slice none 0 0, .slice none 0 0, .int .i64 0, .int .i64 0, .slice none 0 0, .bool false, .slice none 0 0, .slice none 0 0] := PS.start w (.slice a xs.length c) 2
  have THR : (((w.alloc (.cells #[.int .i64 0, .int .i64 0, .slice none 0 0, .slice none 0 0, .string ⟨#[]⟩, .slice none 0 0, .slice none 0 0, .int .i64 0, .int .i64 0, .slice none 0 0, .bool false, .slice none 0 0, .slice none 0 0] 26)).alloc (.cells #[.slice a xs.length c, .int .i64 0] 58)).alloc (.cells #[.int .i64 0, .int .i64 0, .slice none 0 0, .slice none 0 0, .string ⟨#[]⟩, .slice none 0 0, .slice none 0 0, .int .i64 0, .int .i64 0, .slice none 0 0, .bool false, .slice none 0 0, .slice none 0 0] 26)).there (w.heap.size + 1 + 1) 0 13 := PS.room w (.slice a xs.length c)
  obtain ⟨d13, hd13, hrow13⟩ := rowM
  have HR := hide hr
  clear hr
  go_enter Tryz.func19, Tryz.ntmps19
  go_upto_region 3 with (refine wpList_store_mid rfl 26 (.tmp 6) (.tmp 12) rfl (w.heap.size + 1 + 1) 0 #[.int .i64 2, .int .i64 0, .slice none 0 0, .slice none 0 0, .string ⟨#[]⟩, .slice none 0 0, .slice none 0 0, .int .i64 0, .int .i64 0, .slice none 0 0, .bool false, .slice none 0 0, .slice none 0 0] rfl rfl THR iM (all_oneCell_toArray fun v hv => by (simp only [List.mem_cons, List.not_mem_nil, or_false] at hv; rcases hv with rfl | rfl | rfl | rfl | rfl | rfl | rfl | rfl | rfl | rfl | rfl | rfl | rfl; all_goals rfl)) ?_)
  have PH := hide P0
  clear P0 THR
  generalize (((w.alloc (.cells #[.int .i64 0, .int .i64 0, .slice none 0 0, .slice none 0 0, .string ⟨#[]⟩, .slice none 0 0, .slice none 0 0, .int .i64 0, .int .i64 0, .slice none 0 0, .bool false, .slice none 0 0, .slice none 0 0] 26)).alloc (.cells #[.slice a xs.length c, .int .i64 0] 58)).alloc (.cells #[.int .i64 0, .int .i64 0, .slice none 0 0, .slice none 0 0, .string ⟨#[]⟩, .slice none 0 0, .slice none 0 0, .int .i64 0, .int .i64 0, .slice none 0 0, .bool false, .slice none 0 0, .slice none 0 0] 26)).setCells (w.heap.size + 1 + 1) 0 [.int .i64 2, .int .i64 0, .slice none 0 0, .slice none 0 0, .string ⟨#[]⟩, .slice none 0 0, .slice none 0 0, .int .i64 0, .int .i64 0, .slice none 0 0, .bool false, .slice none 0 0, .slice none 0 0] = W0 at *
  have NM := hide (numM_any W0 (w.heap.size + 1) g a c xs (0) 1 (HR.out.up PH.out.N) hb PH.out.Q (by omega) (by omega) (by decide))
  go_wp2_with fail
  refine NM.out.mono ?_
  rintro e V0 ⟨rfl, hQ, hT⟩
  have PV := hide (PH.out.call hQ hT)
  clear NM hQ hT PH
  have PH := PV
  clear PV
  have qT : V0.cell? ⟨w.heap.size + 1 + 1, 1, none⟩ = some (.int .i64 0) := PH.out.T.cell 1
  have qF := PH.out.T.free 1
  go_upto_region 17 with fail
  have PN : Hid (PS w (V0.setCell ⟨w.heap.size + 1 + 1, 1, none⟩ (.int .i64 (beN xs 0 1))) (.slice a xs.length c) _ [.int .i64 2, .int .i64 (beN xs 0 1), .slice none 0 0, .slice none 0 0, .string ⟨#[]⟩, .slice none 0 0, .slice none 0 0, .int .i64 0, .int .i64 0, .slice none 0 0, .bool false, .slice none 0 0, .slice none 0 0]) := PH.out.set 1 _
  clear qT qF PH
  generalize V0.setCell ⟨w.heap.size + 1 + 1, 1, none⟩ (.int .i64 (beN xs 0 1)) = W1 at *
  have PH := PN
  clear PN
  have lt := PH.out.T.lt
  have NM := hide (takeM_any W1 (w.heap.size + 1) g a c xs (0 + 1) 32 (HR.out.up PH.out.N) PH.out.Q (by omega) (by omega) (by omega))
  go_wp2_with fail
  refine NM.out.mono ?_
  rintro e V2 ⟨rfl, B, hQ, hT⟩
  have PV := hide (PH.out.call hQ hT)
  obtain ⟨G2, hG⟩ : ∃ G, W1.heap.size = G := ⟨_, rfl⟩
  rw [hG] at B lt ⊢
  have CG2 : Hid (FB (w.heap.size + 1 + 1) V2 G2 (tkB xs (0 + 1) 32)) := ⟨B, lt⟩
  clear NM hQ hT PH B lt hG
  have PH := PV
  clear PV
  have qT : V2.cell? ⟨w.heap.size + 1 + 1, 2, none⟩ = some (.slice none 0 0) := PH.out.T.cell 2
  have qF := PH.out.T.free 2
  go_upto_region 18 with fail
  have PN : Hid (PS w (V2.setCell ⟨w.heap.size + 1 + 1, 2, none⟩ (.slice (some ⟨G2, 0, none⟩) 32 32)) (.slice a xs.length c) _ [.int .i64 2, .int .i64 (beN xs 0 1), .slice (some ⟨G2, 0, none⟩) 32 32, .slice none 0 0, .string ⟨#[]⟩, .slice none 0 0, .slice none 0 0, .int .i64 0, .int .i64 0, .slice none 0 0, .bool false, .slice none 0 0, .slice none 0 0]) := PH.out.set 2 _
  have CG2' := hide (CG2.out.onl (Only.setCell V2 (w.heap.size + 1 + 1) 2 (.slice (some ⟨G2, 0, none⟩) 32 32)) (Nat.le_refl _))
  clear CG2
  have CG2 := CG2'
  clear CG2'
  clear qT qF PH
  generalize V2.setCell ⟨w.heap.size + 1 + 1, 2, none⟩ (.slice (some ⟨G2, 0, none⟩) 32 32) = W3 at *
  have PH := PN
  clear PN
  have lt := PH.out.T.lt
  have NM := hide (takeM_any W3 (w.heap.size + 1) g a c xs (0 + 1 + 32) 32 (HR.out.up PH.out.N) PH.out.Q (by omega) (by omega) (by omega))
  go_wp2_with fail
  refine NM.out.mono ?_
  rintro e V4 ⟨rfl, B, hQ, hT⟩
  have PV := hide (PH.out.call hQ hT)
  have CG2' := hide (CG2.out.tch hT (by omega))
  clear CG2
  have CG2 := CG2'
  clear CG2'
  obtain ⟨G3, hG⟩ : ∃ G, W3.heap.size = G := ⟨_, rfl⟩
  rw [hG] at B lt ⊢
  have CG3 : Hid (FB (w.heap.size + 1 + 1) V4 G3 (tkB xs (0 + 1 + 32) 32)) := ⟨B, lt⟩
  clear NM hQ hT PH B lt hG
  have PH := PV
  clear PV
  have qT : V4.cell? ⟨w.heap.size + 1 + 1, 3, none⟩ = some (.slice none 0 0) := PH.out.T.cell 3
  have qF := PH.out.T.free 3
  go_upto_region 19 with fail
  have PN : Hid (PS w (V4.setCell ⟨w.heap.size + 1 + 1, 3, none⟩ (.slice (some ⟨G3, 0, none⟩) 32 32)) (.slice a xs.length c) _ [.int .i64 2, .int .i64 (beN xs 0 1), .slice (some ⟨G2, 0, none⟩) 32 32, .slice (some ⟨G3, 0, none⟩) 32 32, .string ⟨#[]⟩, .slice none 0 0, .slice none 0 0, .int .i64 0, .int .i64 0, .slice none 0 0, .bool false, .slice none 0 0, .slice none 0 0]) := PH.out.set 3 _
  have CG2' := hide (CG2.out.onl (Only.setCell V4 (w.heap.size + 1 + 1) 3 (.slice (some ⟨G3, 0, none⟩) 32 32)) (Nat.le_refl _))
  clear CG2
  have CG2 := CG2'
  clear CG2'
  have CG3' := hide (CG3.out.onl (Only.setCell V4 (w.heap.size + 1 + 1) 3 (.slice (some ⟨G3, 0, none⟩) 32 32)) (Nat.le_refl _))
  clear CG3
  have CG3 := CG3'
  clear CG3'
  clear qT qF PH
  generalize V4.setCell ⟨w.heap.size + 1 + 1, 3, none⟩ (.slice (some ⟨G3, 0, none⟩) 32 32) = W5 at *
  have PH := PN
  clear PN
  have NM := hide (numM_any W5 (w.heap.size + 1) g a c xs (0 + 1 + 32 + 32) 1 (HR.out.up PH.out.N) hb PH.out.Q (by omega) (by omega) (by decide))
  go_wp2_with fail
  refine NM.out.mono ?_
  rintro e V6 ⟨rfl, hQ, hT⟩
  have PV := hide (PH.out.call hQ hT)
  have CG2' := hide (CG2.out.tch hT (by omega))
  clear CG2
  have CG2 := CG2'
  clear CG2'
  have CG3' := hide (CG3.out.tch hT (by omega))
  clear CG3
  have CG3 := CG3'
  clear CG3'
  clear NM hQ hT PH
  have PH := PV
  clear PV
  have qT : V6.cell? ⟨w.heap.size + 1 + 1, 10, none⟩ = some (.bool false) := PH.out.T.cell 10
  have qF := PH.out.T.free 10
  go_upto_region 39 with fail
  have PN : Hid (PS w (V6.setCell ⟨w.heap.size + 1 + 1, 10, none⟩ (.bool (beN xs (0 + 1 + 32 + 32) 1 == 1))) (.slice a xs.length c) _ [.int .i64 2, .int .i64 (beN xs 0 1), .slice (some ⟨G2, 0, none⟩) 32 32, .slice (some ⟨G3, 0, none⟩) 32 32, .string ⟨#[]⟩, .slice none 0 0, .slice none 0 0, .int .i64 0, .int .i64 0, .slice none 0 0, .bool (beN xs (0 + 1 + 32 + 32) 1 == 1), .slice none 0 0, .slice none 0 0]) := PH.out.set 10 _
  have CG2' := hide (CG2.out.onl (Only.setCell V6 (w.heap.size + 1 + 1) 10 (.bool (beN xs (0 + 1 + 32 + 32) 1 == 1))) (Nat.le_refl _))
  clear CG2
  have CG2 := CG2'
  clear CG2'
  have CG3' := hide (CG3.out.onl (Only.setCell V6 (w.heap.size + 1 + 1) 10 (.bool (beN xs (0 + 1 + 32 + 32) 1 == 1))) (Nat.le_refl _))
  clear CG3
  have CG3 := CG3'
  clear CG3'
  clear qT qF PH
  generalize V6.setCell ⟨w.heap.size + 1 + 1, 10, none⟩ (.bool (beN xs (0 + 1 + 32 + 32) 1 == 1)) = W7 at *
  have PH := PN
  clear PN
  have RG := PH.out.T.rangeG
  have THR := PH.out.U.thereG
  have RR := World.rangeAt_setCells_same W7 w.heap.size 0 [.int .i64 2, .int .i64 (beN xs 0 1), .slice (some ⟨G2, 0, none⟩) 32 32, .slice (some ⟨G3, 0, none⟩) 32 32, .string ⟨#[]⟩, .slice none 0 0, .slice none 0 0, .int .i64 0, .int .i64 0, .slice none 0 0, .bool (beN xs (0 + 1 + 32 + 32) 1 == 1), .slice none 0 0, .slice none 0 0] THR
  have OQ := only_setG W7 w.heap.size [.int .i64 2, .int .i64 (beN xs 0 1), .slice (some ⟨G2, 0, none⟩) 32 32, .slice (some ⟨G3, 0, none⟩) 32 32, .string ⟨#[]⟩, .slice none 0 0, .slice none 0 0, .int .i64 0, .int .i64 0, .slice none 0 0, .bool (beN xs (0 + 1 + 32 + 32) 1 == 1), .slice none 0 0, .slice none 0 0] 0
  have N8 : Hid (Below w.heap.size w (W7.setCells w.heap.size 0 [.int .i64 2, .int .i64 (beN xs 0 1), .slice (some ⟨G2, 0, none⟩) 32 32, .slice (some ⟨G3, 0, none⟩) 32 32, .string ⟨#[]⟩, .slice none 0 0, .slice none 0 0, .int .i64 0, .int .i64 0, .slice none 0 0, .bool (beN xs (0 + 1 + 32 + 32) 1 == 1), .slice none 0 0, .slice none 0 0])) := PH.out.N.trans (OQ.below (by omega))
  have CG2' := hide (CG2.out.onl OQ (by omega))
  clear CG2
  have CG2 := CG2'
  clear CG2'
  have CG3' := hide (CG3.out.onl OQ (by omega))
  clear CG3
  have CG3 := CG3'
  clear CG3'
  clear OQ PH
  have ON : ([.int .i64 2, .int .i64 (beN xs 0 1), .slice (some ⟨G2, 0, none⟩) 32 32, .slice (some ⟨G3, 0, none⟩) 32 32, .string ⟨#[]⟩, .slice none 0 0, .slice none 0 0, .int .i64 0, .int .i64 0, .slice none 0 0, .bool (beN xs (0 + 1 + 32 + 32) 1 == 1), .slice none 0 0, .slice none 0 0] : List Value).toArray.all (·.oneCell') = true := all_oneCell_toArray fun v hv => by
    simp only [List.mem_cons, List.not_mem_nil, or_false] at hv
    rcases hv with rfl | rfl | rfl | rfl | rfl | rfl | rfl | rfl | rfl | rfl | rfl | rfl | rfl
    all_goals rfl
  have RES : Hid ((∃ p, Ending.returned (.agg #[.int .i64 2, .int .i64 (beN xs 0 1), .slice (some ⟨G2, 0, none⟩) 32 32, .slice (some ⟨G3, 0, none⟩) 32 32, .string ⟨#[]⟩, .slice none 0 0, .slice none 0 0, .int .i64 0, .int .i64 0, .slice none 0 0, .bool (beN xs (0 + 1 + 32 + 32) 1 == 1), .slice none 0 0, .slice none 0 0]) = .returned (.agg (mgV p (rdAnswer xs))) ∧ HasM (W7.setCells w.heap.size 0 [.int .i64 2, .int .i64 (beN xs 0 1), .slice (some ⟨G2, 0, none⟩) 32 32, .slice (some ⟨G3, 0, none⟩) 32 32, .string ⟨#[]⟩, .slice none 0 0, .slice none 0 0, .int .i64 0, .int .i64 0, .slice none 0 0, .bool (beN xs (0 + 1 + 32 + 32) 1 == 1), .slice none 0 0, .slice none 0 0]) p (rdAnswer xs) ∧ HasZ p (rdAnswer xs) ∧ TyM (W7.setCells w.heap.size 0 [.int .i64 2, .int .i64 (beN xs 0 1), .slice (some ⟨G2, 0, none⟩) 32 32, .slice (some ⟨G3, 0, none⟩) 32 32, .string ⟨#[]⟩, .slice none 0 0, .slice none 0 0, .int .i64 0, .int .i64 0, .slice none 0 0, .bool (beN xs (0 + 1 + 32 + 32) 1 == 1), .slice none 0 0, .slice none 0 0]) p (rdAnswer xs)) ∧ Below w.heap.size w (W7.setCells w.heap.size 0 [.int .i64 2, .int .i64 (beN xs 0 1), .slice (some ⟨G2, 0, none⟩) 32 32, .slice (some ⟨G3, 0, none⟩) 32 32, .string ⟨#[]⟩, .slice none 0 0, .slice none 0 0, .int .i64 0, .int .i64 0, .slice none 0 0, .bool (beN xs (0 + 1 + 32 + 32) 1 == 1), .slice none 0 0, .slice none 0 0])) := ⟨⟨⟨some ⟨G2, 0, none⟩, 32, G2, some ⟨G3, 0, none⟩, 32, G3, none, 0, 0, none, 0, 0, none, 0, 0, none, 0, 0, none, 0, 0, []⟩, by simp only [mgV, rdAnswer, tkB_len, List.length_nil], ⟨CG2.out.1.own0.rd, CG3.out.1.own0.rd, rdT0 _ _ _, rd0 _ _ _ _, rd0 _ _ _ _, rdL0 _ _ _ _, rd0 _ _ _ _, Nat.zero_le _⟩, ⟨(fun h => by cases h), (fun h => by cases h), (fun _ => rfl), (fun _ => rfl), (fun _ => rfl), fun i hi => absurd hi (by simp [rdAnswer])⟩, ⟨fun h => absurd h (by simp [rdAnswer]), fun h => absurd h (by simp [rdAnswer])⟩⟩, N8.out⟩
  clear N8
  go_wp2_with (first
    | (refine wpList_load_mid rfl 26 (.tmp 6) rfl (w.heap.size + 1 + 1) 0 rfl [.int .i64 2, .int .i64 (beN xs 0 1), .slice (some ⟨G2, 0, none⟩) 32 32, .slice (some ⟨G3, 0, none⟩) 32 32, .string ⟨#[]⟩, .slice none 0 0, .slice none 0 0, .int .i64 0, .int .i64 0, .slice none 0 0, .bool (beN xs (0 + 1 + 32 + 32) 1 == 1), .slice none 0 0, .slice none 0 0] d13 RG hd13 hrow13 iM ?_)
    | (refine wpList_store_mid rfl 26 (.tmp 4) (.tmp 124) rfl w.heap.size 0 #[.int .i64 2, .int .i64 (beN xs 0 1), .slice (some ⟨G2, 0, none⟩) 32 32, .slice (some ⟨G3, 0, none⟩) 32 32, .string ⟨#[]⟩, .slice none 0 0, .slice none 0 0, .int .i64 0, .int .i64 0, .slice none 0 0, .bool (beN xs (0 + 1 + 32 + 32) 1 == 1), .slice none 0 0, .slice none 0 0] rfl rfl THR iM ON ?_))
  exact bodyPost_ret (v := .agg #[.int .i64 2, .int .i64 (beN xs 0 1), .slice (some ⟨G2, 0, none⟩) 32 32, .slice (some ⟨G3, 0, none⟩) 32 32, .string ⟨#[]⟩, .slice none 0 0, .slice none 0 0, .int .i64 0, .int .i64 0, .slice none 0 0, .bool (beN xs (0 + 1 + 32 + 32) 1 == 1), .slice none 0 0, .slice none 0 0]) (results_cellG Tryz.results19 _ _ w.heap.size _ d13 rfl RR hd13 hrow13 iM) rfl RES.out
end Go.Proofs.YtflecleofaeiiaaGreat
