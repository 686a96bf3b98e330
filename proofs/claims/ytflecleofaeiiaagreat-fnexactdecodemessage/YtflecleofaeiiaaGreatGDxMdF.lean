import Derived.Test.YtflecleofaeiiaaGreatGD30

/-
  The law of DecodeMessage (written by gens/mdf.py).
-/
namespace Go.Proofs.YtflecleofaeiiaaGreat
open Go Go.RowKit

theorem wpList_load_midW {P : Program} {ops : Array Oper} {rest : List Oper} {op : Oper} {a : Act} {w : World} {Q : Exit → Act → World → Prop} (hw : Region.wanted op (yielded ops a.tmps) = true) (ty : TypeId) (x : Operand) (ho : op.op = .load ty x)
    (b o : Nat) (hx : a.eval x = .pointer (some ⟨b, o, none⟩)) (cs : List Value) (d : TypeDesc) (hc : w.rangeAt b o cs)
    (hu : P.underlying ty = some d) (hd : d.isRow = true) (hi : (P.info? ty).map (·.size) = some cs.length)
    (h : wpList P ops Q rest (a.put op.dst (.agg cs.toArray)) w) : wpList P ops Q (op :: rest) a w := by
  unfold wpList
  rw [if_pos hw]
  exact .inl (wp_load_mid ty x ho b o hx cs d hc hu hd hi h)
theorem nxt2 {b : Nat} {a u v : World} (h : Below b a u) (n : Below u.heap.size u v) (hb : b ≤ u.heap.size := by omega) : Below b a v := h.trans (n.mono hb)
set_option maxRecDepth 100000 in
set_option maxHeartbeats 8000000 in
theorem decMsg_law (w : World) (g0 : Nat) (a0 : Option Addr) (c0 : Nat) (X0 : List Int) (hX0 : Rd w g0 a0 .u8 X0) (bX0 : Byt X0) (n1 : Int) (_bn1 : (Lit.int .i64 n1).wf = true) :
    Calls Tryz.prog 3 #[.slice a0 X0.length c0, .int .i64 n1] w fun e w' => e = .returned (.bool true) ∧ Below w.heap.size w w' := by
  by_cases q0 : X0.length ≤ 1048576
  rotate_left
  · have u0 : decide ((1048576 : Int) < (X0.length : Int)) = true := decide_eq_true (by omega)
    clear hX0
    go_enter Tryz.func3, Tryz.ntmps3
    go_wp2
    go_ret
    exact ⟨rfl, Below.refl _ _⟩
  have u0 : decide ((1048576 : Int) < (X0.length : Int)) = false := decide_eq_false (by omega)
  obtain ⟨cd, hcd⟩ : ∃ x, Hid (dmC X0 n1 = x) := ⟨_, rfl⟩
  obtain ⟨m, hmm⟩ : ∃ x, Hid (dmR X0 n1 = x) := ⟨_, rfl⟩
  obtain ⟨nx, hnx⟩ : ∃ x, Hid (dmE X0 n1 = x) := ⟨_, rfl⟩
  have SM : Hid (SmM m) := by show SmM m; rw [← hmm.out]; exact sm_dm n1
  have IS : Hid (IsM m) := by show IsM m; rw [← hmm.out]; exact isM_dm bX0 n1
  have SP : Hid (∀ (W : World) (g : Nat), Blk W g .u8 X0 → Calls Tryz.prog 5 #[.slice (some ⟨g, 0, none⟩) X0.length X0.length, .int .i64 n1] W fun e w' => (∃ p, e = .returned (.agg (rsV cd p m nx)) ∧ HasM w' p m) ∧ Below W.heap.size W w') := fun W g hB => by
    have := specDM_any W g (some ⟨g, 0, none⟩) X0.length X0 n1 hB.own0.rd bX0 (fun h => by cases h) (Nat.le_refl _) q0
    rw [hcd.out, hmm.out, hnx.out] at this
    exact this
  have IM : Hid (∀ (W : World) (g : Nat), Blk W g .u8 X0 → Calls Tryz.prog 7 #[.slice (some ⟨g, 0, none⟩) X0.length X0.length, .int .i64 n1] W fun e w' => (∃ p bs F, e = .returned (.agg (rsV cd p m nx)) ∧ W.heap.size ≤ F 0 ∧ F 7 ≤ w'.heap.size ∧ AnsM w' F p m bs) ∧ Below W.heap.size W w') := fun W g hB => by
    refine (implDM_any W g (some ⟨g, 0, none⟩) X0.length X0 n1 hB.own0.rd bX0 (fun h => by cases h) (Nat.le_refl _) q0).mono ?_
    rintro e w' ⟨⟨p, bs, F, rfl, hF, hA⟩, n⟩
    rw [hcd.out, hmm.out, hnx.out]
    rw [hmm.out] at hA
    exact ⟨⟨p, bs, fun i => min (F i) w'.heap.size, rfl, Nat.le_min.2 ⟨hF, n.size⟩, Nat.min_le_right _ _, hA.trim⟩, n⟩
  have pos := mN12_pos m SM.out
  obtain ⟨nn, hnn⟩ : ∃ x, Hid (mN12 m = x) := ⟨_, rfl⟩
  rw [hnn.out] at pos
  have t0 : decide (nn < 0) = false := decide_eq_false (by omega)
  obtain ⟨d15, hd15, hrow15⟩ := rowMR
  have HX := hide hX0
  have N := Below.refl w.heap.size w
  clear hX0 bX0 hcd hmm hnx
  go_enter Tryz.func3, Tryz.ntmps3
  have TB := hide (toByteS_any w g0 a0 c0 X0 (HX.out.up N) q0)
  go_wp2_with fail
  refine TB.out.mono ?_
  rintro e Y1 ⟨rfl, hB, nB⟩
  clear TB
  obtain ⟨g1, hg1⟩ : ∃ g, w.heap.size = g := ⟨_, rfl⟩
  rw [hg1] at hB ⊢
  have lg1 : w.heap.size ≤ g1 := by rw [← hg1]; exact N.size
  clear hg1
  have Xg1 := hide hB
  clear hB
  have N' := nxt N nB
  clear N
  have N := N'
  clear N'
  clear nB
  have CS := hide (SP.out Y1 g1 Xg1.out)
  go_wp2_with fail
  refine CS.out.mono ?_
  rintro e Y2 ⟨⟨pw, rfl, hM⟩, n2⟩
  clear CS
  have HM := hide hM
  clear hM
  have N' := nxt N n2
  clear N
  have N := N'
  clear N'
  clear n2
  have nA : Below Y2.heap.size Y2 (Y2.alloc (.cells #[.int .i64 0, .int .i64 0, .int .i64 0, .slice none 0 0, .slice none 0 0, .string ⟨#[]⟩, .slice none 0 0, .slice none 0 0, .int .i64 0, .int .i64 0, .slice none 0 0, .bool false, .slice none 0 0, .slice none 0 0, .int .i64 0] 28)) := (Below.refl _ _).alloc (Nat.le_refl _) _
  have ZA : RwC (Y2.alloc (.cells #[.int .i64 0, .int .i64 0, .int .i64 0, .slice none 0 0, .slice none 0 0, .string ⟨#[]⟩, .slice none 0 0, .slice none 0 0, .int .i64 0, .int .i64 0, .slice none 0 0, .bool false, .slice none 0 0, .slice none 0 0, .int .i64 0] 28)) Y2.heap.size [.int .i64 0, .int .i64 0, .int .i64 0, .slice none 0 0, .slice none 0 0, .string ⟨#[]⟩, .slice none 0 0, .slice none 0 0, .int .i64 0, .int .i64 0, .slice none 0 0, .bool false, .slice none 0 0, .slice none 0 0, .int .i64 0] 28 := RwC.new Y2 _ _
  have OQ := only_setG (Y2.alloc (.cells #[.int .i64 0, .int .i64 0, .int .i64 0, .slice none 0 0, .slice none 0 0, .string ⟨#[]⟩, .slice none 0 0, .slice none 0 0, .int .i64 0, .int .i64 0, .slice none 0 0, .bool false, .slice none 0 0, .slice none 0 0, .int .i64 0] 28)) Y2.heap.size [.int .i64 cd, .int .i64 m.k, .int .i64 m.v, .slice pw.a2 m.r.length pw.c2, .slice pw.a3 m.s.length pw.c3, .string ⟨⟨m.ho⟩⟩, .slice pw.a5 m.pr.length pw.c5, .slice pw.a6 m.ti.length pw.c6, .int .i64 m.ag, .int .i64 m.ea, .slice pw.a9 m.bi.length pw.c9, .bool m.rs, .slice pw.a11 m.ce.length pw.c11, .slice pw.a12 m.pf.length pw.c12, .int .i64 nx] 0
  have BX : RwC ((Y2.alloc (.cells #[.int .i64 0, .int .i64 0, .int .i64 0, .slice none 0 0, .slice none 0 0, .string ⟨#[]⟩, .slice none 0 0, .slice none 0 0, .int .i64 0, .int .i64 0, .slice none 0 0, .bool false, .slice none 0 0, .slice none 0 0, .int .i64 0] 28)).setCells Y2.heap.size 0 [.int .i64 cd, .int .i64 m.k, .int .i64 m.v, .slice pw.a2 m.r.length pw.c2, .slice pw.a3 m.s.length pw.c3, .string ⟨⟨m.ho⟩⟩, .slice pw.a5 m.pr.length pw.c5, .slice pw.a6 m.ti.length pw.c6, .int .i64 m.ag, .int .i64 m.ea, .slice pw.a9 m.bi.length pw.c9, .bool m.rs, .slice pw.a11 m.ce.length pw.c11, .slice pw.a12 m.pf.length pw.c12, .int .i64 nx]) Y2.heap.size [.int .i64 cd, .int .i64 m.k, .int .i64 m.v, .slice pw.a2 m.r.length pw.c2, .slice pw.a3 m.s.length pw.c3, .string ⟨⟨m.ho⟩⟩, .slice pw.a5 m.pr.length pw.c5, .slice pw.a6 m.ti.length pw.c6, .int .i64 m.ag, .int .i64 m.ea, .slice pw.a9 m.bi.length pw.c9, .bool m.rs, .slice pw.a11 m.ce.length pw.c11, .slice pw.a12 m.pf.length pw.c12, .int .i64 nx] 28 := ZA.put rfl
  have nS : Below Y2.heap.size Y2 ((Y2.alloc (.cells #[.int .i64 0, .int .i64 0, .int .i64 0, .slice none 0 0, .slice none 0 0, .string ⟨#[]⟩, .slice none 0 0, .slice none 0 0, .int .i64 0, .int .i64 0, .slice none 0 0, .bool false, .slice none 0 0, .slice none 0 0, .int .i64 0] 28)).setCells Y2.heap.size 0 [.int .i64 cd, .int .i64 m.k, .int .i64 m.v, .slice pw.a2 m.r.length pw.c2, .slice pw.a3 m.s.length pw.c3, .string ⟨⟨m.ho⟩⟩, .slice pw.a5 m.pr.length pw.c5, .slice pw.a6 m.ti.length pw.c6, .int .i64 m.ag, .int .i64 m.ea, .slice pw.a9 m.bi.length pw.c9, .bool m.rs, .slice pw.a11 m.ce.length pw.c11, .slice pw.a12 m.pf.length pw.c12, .int .i64 nx]) := nA.trans (OQ.below (Nat.le_refl _))
  have THR := ZA.thereG
  have ON : (#[.int .i64 cd, .int .i64 m.k, .int .i64 m.v, .slice pw.a2 m.r.length pw.c2, .slice pw.a3 m.s.length pw.c3, .string ⟨⟨m.ho⟩⟩, .slice pw.a5 m.pr.length pw.c5, .slice pw.a6 m.ti.length pw.c6, .int .i64 m.ag, .int .i64 m.ea, .slice pw.a9 m.bi.length pw.c9, .bool m.rs, .slice pw.a11 m.ce.length pw.c11, .slice pw.a12 m.pf.length pw.c12, .int .i64 nx] : Array Value).all (·.oneCell') = true := one15m cd pw m nx
  clear nA ZA OQ
  unfold rsV
  go_upto_region 4 with (refine wpList_store_mid rfl 28 (.tmp 5) (.tmp 18) rfl Y2.heap.size 0 #[.int .i64 cd, .int .i64 m.k, .int .i64 m.v, .slice pw.a2 m.r.length pw.c2, .slice pw.a3 m.s.length pw.c3, .string ⟨⟨m.ho⟩⟩, .slice pw.a5 m.pr.length pw.c5, .slice pw.a6 m.ti.length pw.c6, .int .i64 m.ag, .int .i64 m.ea, .slice pw.a9 m.bi.length pw.c9, .bool m.rs, .slice pw.a11 m.ce.length pw.c11, .slice pw.a12 m.pf.length pw.c12, .int .i64 nx] rfl rfl THR iMR ON ?_)
  clear THR ON
  generalize ((Y2.alloc (.cells #[.int .i64 0, .int .i64 0, .int .i64 0, .slice none 0 0, .slice none 0 0, .string ⟨#[]⟩, .slice none 0 0, .slice none 0 0, .int .i64 0, .int .i64 0, .slice none 0 0, .bool false, .slice none 0 0, .slice none 0 0, .int .i64 0] 28)).setCells Y2.heap.size 0 [.int .i64 cd, .int .i64 m.k, .int .i64 m.v, .slice pw.a2 m.r.length pw.c2, .slice pw.a3 m.s.length pw.c3, .string ⟨⟨m.ho⟩⟩, .slice pw.a5 m.pr.length pw.c5, .slice pw.a6 m.ti.length pw.c6, .int .i64 m.ag, .int .i64 m.ea, .slice pw.a9 m.bi.length pw.c9, .bool m.rs, .slice pw.a11 m.ce.length pw.c11, .slice pw.a12 m.pf.length pw.c12, .int .i64 nx]) = Y3 at *
  obtain ⟨b5, hb5⟩ : ∃ g, Y2.heap.size = g := ⟨_, rfl⟩
  have Xb5 : Hid (RwC Y3 Y2.heap.size [.int .i64 cd, .int .i64 m.k, .int .i64 m.v, .slice pw.a2 m.r.length pw.c2, .slice pw.a3 m.s.length pw.c3, .string ⟨⟨m.ho⟩⟩, .slice pw.a5 m.pr.length pw.c5, .slice pw.a6 m.ti.length pw.c6, .int .i64 m.ag, .int .i64 m.ea, .slice pw.a9 m.bi.length pw.c9, .bool m.rs, .slice pw.a11 m.ce.length pw.c11, .slice pw.a12 m.pf.length pw.c12, .int .i64 nx] 28) := BX
  clear BX
  rw [hb5] at Xb5 ⊢
  have wb5 : w.heap.size ≤ b5 := by rw [← hb5]; exact N.size
  have NB : Below Y2.heap.size Y2 Y3 := nS
  have HM0 := HM
  clear HM
  have lb2' := Nat.le_refl Y2.heap.size
  obtain ⟨b2, hb2⟩ : ∃ g, Y2.heap.size = g := ⟨_, rfl⟩
  have HUP : Hid (∀ V, Below b2 Y2 V → HasM V pw m) := fun V nV => by rw [← hb2] at nV; exact HM0.out.up nV
  rw [hb2] at NB lb2'
  have lb2 : b2 ≤ Y2.heap.size := by omega
  have e25 : b2 ≤ b5 := by omega
  clear HM0 lb2' hb5 Xg1
  have N' := nxt N nS
  clear N
  have N := N'
  clear N' nS hb2
  have TB := hide (toByteS_any Y3 g0 a0 c0 X0 (HX.out.up N) q0)
  go_wp2_with fail
  refine TB.out.mono ?_
  rintro e Y4 ⟨rfl, hB, nB⟩
  clear TB
  obtain ⟨g6, hg6⟩ : ∃ g, Y3.heap.size = g := ⟨_, rfl⟩
  rw [hg6] at hB ⊢
  have lg6 : w.heap.size ≤ g6 := by rw [← hg6]; exact N.size
  have mg6 : b2 ≤ g6 := by rw [← hg6]; exact Nat.le_trans lb2 NB.size
  have x56 : b5 < g6 := by rw [← hg6]; exact Xb5.out.lt
  clear hg6
  have Xg6 := hide hB
  clear hB
  have NB' : Below b2 Y2 Y4 := nxt2 NB nB (Nat.le_trans lb2 NB.size)
  clear NB
  have NB := NB'
  clear NB'
  have N' := nxt N nB
  clear N
  have N := N'
  clear N'
  have Xb5' := hide (Xb5.out.up nB)
  clear Xb5
  have Xb5 := Xb5'
  clear Xb5'
  clear nB
  go_upto_region 5 with fail
  have s4 := Xg6.out.lt
  have CI := hide (IM.out Y4 g6 Xg6.out)
  go_wp2_with fail
  refine CI.out.mono ?_
  rintro e Y5 ⟨⟨p, bs, F, rfl, hF, hF7, hA⟩, n5⟩
  clear CI
  have HA := hide hA
  clear hA
  have s45 := Xb5.out.lt
  have f6 : g6 < F 0 := by omega
  have f5 : b5 < F 0 := by omega
  have f2 : b2 ≤ F 0 := by omega
  clear hF s4 s45
  have NB' : Below b2 Y2 Y5 := nxt2 NB n5 (Nat.le_trans lb2 NB.size)
  clear NB
  have NB := NB'
  clear NB'
  have N' := nxt N n5
  clear N
  have N := N'
  clear N'
  have Xb5' := hide (Xb5.out.up n5)
  clear Xb5
  have Xb5 := Xb5'
  clear Xb5'
  have Xg6' := hide (Xg6.out.up n5)
  clear Xg6
  have Xg6 := Xg6'
  clear Xg6'
  clear n5
  have nA : Below Y5.heap.size Y5 (Y5.alloc (.cells #[.int .i64 0, .int .i64 0, .int .i64 0, .slice none 0 0, .slice none 0 0, .string ⟨#[]⟩, .slice none 0 0, .slice none 0 0, .int .i64 0, .int .i64 0, .slice none 0 0, .bool false, .slice none 0 0, .slice none 0 0, .int .i64 0] 28)) := (Below.refl _ _).alloc (Nat.le_refl _) _
  have ZA : RwC (Y5.alloc (.cells #[.int .i64 0, .int .i64 0, .int .i64 0, .slice none 0 0, .slice none 0 0, .string ⟨#[]⟩, .slice none 0 0, .slice none 0 0, .int .i64 0, .int .i64 0, .slice none 0 0, .bool false, .slice none 0 0, .slice none 0 0, .int .i64 0] 28)) Y5.heap.size [.int .i64 0, .int .i64 0, .int .i64 0, .slice none 0 0, .slice none 0 0, .string ⟨#[]⟩, .slice none 0 0, .slice none 0 0, .int .i64 0, .int .i64 0, .slice none 0 0, .bool false, .slice none 0 0, .slice none 0 0, .int .i64 0] 28 := RwC.new Y5 _ _
  have OQ := only_setG (Y5.alloc (.cells #[.int .i64 0, .int .i64 0, .int .i64 0, .slice none 0 0, .slice none 0 0, .string ⟨#[]⟩, .slice none 0 0, .slice none 0 0, .int .i64 0, .int .i64 0, .slice none 0 0, .bool false, .slice none 0 0, .slice none 0 0, .int .i64 0] 28)) Y5.heap.size [.int .i64 cd, .int .i64 m.k, .int .i64 m.v, .slice p.a2 m.r.length p.c2, .slice p.a3 m.s.length p.c3, .string ⟨⟨m.ho⟩⟩, .slice p.a5 m.pr.length p.c5, .slice p.a6 m.ti.length p.c6, .int .i64 m.ag, .int .i64 m.ea, .slice p.a9 m.bi.length p.c9, .bool m.rs, .slice p.a11 m.ce.length p.c11, .slice p.a12 m.pf.length p.c12, .int .i64 nx] 0
  have BX : RwC ((Y5.alloc (.cells #[.int .i64 0, .int .i64 0, .int .i64 0, .slice none 0 0, .slice none 0 0, .string ⟨#[]⟩, .slice none 0 0, .slice none 0 0, .int .i64 0, .int .i64 0, .slice none 0 0, .bool false, .slice none 0 0, .slice none 0 0, .int .i64 0] 28)).setCells Y5.heap.size 0 [.int .i64 cd, .int .i64 m.k, .int .i64 m.v, .slice p.a2 m.r.length p.c2, .slice p.a3 m.s.length p.c3, .string ⟨⟨m.ho⟩⟩, .slice p.a5 m.pr.length p.c5, .slice p.a6 m.ti.length p.c6, .int .i64 m.ag, .int .i64 m.ea, .slice p.a9 m.bi.length p.c9, .bool m.rs, .slice p.a11 m.ce.length p.c11, .slice p.a12 m.pf.length p.c12, .int .i64 nx]) Y5.heap.size [.int .i64 cd, .int .i64 m.k, .int .i64 m.v, .slice p.a2 m.r.length p.c2, .slice p.a3 m.s.length p.c3, .string ⟨⟨m.ho⟩⟩, .slice p.a5 m.pr.length p.c5, .slice p.a6 m.ti.length p.c6, .int .i64 m.ag, .int .i64 m.ea, .slice p.a9 m.bi.length p.c9, .bool m.rs, .slice p.a11 m.ce.length p.c11, .slice p.a12 m.pf.length p.c12, .int .i64 nx] 28 := ZA.put rfl
  have nS : Below Y5.heap.size Y5 ((Y5.alloc (.cells #[.int .i64 0, .int .i64 0, .int .i64 0, .slice none 0 0, .slice none 0 0, .string ⟨#[]⟩, .slice none 0 0, .slice none 0 0, .int .i64 0, .int .i64 0, .slice none 0 0, .bool false, .slice none 0 0, .slice none 0 0, .int .i64 0] 28)).setCells Y5.heap.size 0 [.int .i64 cd, .int .i64 m.k, .int .i64 m.v, .slice p.a2 m.r.length p.c2, .slice p.a3 m.s.length p.c3, .string ⟨⟨m.ho⟩⟩, .slice p.a5 m.pr.length p.c5, .slice p.a6 m.ti.length p.c6, .int .i64 m.ag, .int .i64 m.ea, .slice p.a9 m.bi.length p.c9, .bool m.rs, .slice p.a11 m.ce.length p.c11, .slice p.a12 m.pf.length p.c12, .int .i64 nx]) := nA.trans (OQ.below (Nat.le_refl _))
  have THR := ZA.thereG
  have ON : (#[.int .i64 cd, .int .i64 m.k, .int .i64 m.v, .slice p.a2 m.r.length p.c2, .slice p.a3 m.s.length p.c3, .string ⟨⟨m.ho⟩⟩, .slice p.a5 m.pr.length p.c5, .slice p.a6 m.ti.length p.c6, .int .i64 m.ag, .int .i64 m.ea, .slice p.a9 m.bi.length p.c9, .bool m.rs, .slice p.a11 m.ce.length p.c11, .slice p.a12 m.pf.length p.c12, .int .i64 nx] : Array Value).all (·.oneCell') = true := one15m cd p m nx
  clear nA ZA OQ
  unfold rsV
  go_upto_region 6 with (refine wpList_store_mid rfl 28 (.tmp 7) (.tmp 23) rfl Y5.heap.size 0 #[.int .i64 cd, .int .i64 m.k, .int .i64 m.v, .slice p.a2 m.r.length p.c2, .slice p.a3 m.s.length p.c3, .string ⟨⟨m.ho⟩⟩, .slice p.a5 m.pr.length p.c5, .slice p.a6 m.ti.length p.c6, .int .i64 m.ag, .int .i64 m.ea, .slice p.a9 m.bi.length p.c9, .bool m.rs, .slice p.a11 m.ce.length p.c11, .slice p.a12 m.pf.length p.c12, .int .i64 nx] rfl rfl THR iMR ON ?_)
  clear THR ON
  generalize ((Y5.alloc (.cells #[.int .i64 0, .int .i64 0, .int .i64 0, .slice none 0 0, .slice none 0 0, .string ⟨#[]⟩, .slice none 0 0, .slice none 0 0, .int .i64 0, .int .i64 0, .slice none 0 0, .bool false, .slice none 0 0, .slice none 0 0, .int .i64 0] 28)).setCells Y5.heap.size 0 [.int .i64 cd, .int .i64 m.k, .int .i64 m.v, .slice p.a2 m.r.length p.c2, .slice p.a3 m.s.length p.c3, .string ⟨⟨m.ho⟩⟩, .slice p.a5 m.pr.length p.c5, .slice p.a6 m.ti.length p.c6, .int .i64 m.ag, .int .i64 m.ea, .slice p.a9 m.bi.length p.c9, .bool m.rs, .slice p.a11 m.ce.length p.c11, .slice p.a12 m.pf.length p.c12, .int .i64 nx]) = Y6 at *
  obtain ⟨b7, hb7⟩ : ∃ g, Y5.heap.size = g := ⟨_, rfl⟩
  have Xb7 : Hid (RwC Y6 Y5.heap.size [.int .i64 cd, .int .i64 m.k, .int .i64 m.v, .slice p.a2 m.r.length p.c2, .slice p.a3 m.s.length p.c3, .string ⟨⟨m.ho⟩⟩, .slice p.a5 m.pr.length p.c5, .slice p.a6 m.ti.length p.c6, .int .i64 m.ag, .int .i64 m.ea, .slice p.a9 m.bi.length p.c9, .bool m.rs, .slice p.a11 m.ce.length p.c11, .slice p.a12 m.pf.length p.c12, .int .i64 nx] 28) := BX
  clear BX
  rw [hb7] at Xb7 ⊢
  have wb7 : w.heap.size ≤ b7 := by rw [← hb7]; exact N.size
  have f7 : F 7 ≤ b7 := by omega
  have s7 := Xg6.out.lt
  have s75 := Xb5.out.lt
  have g7 : g6 < b7 := by omega
  have c75 : b5 < b7 := by omega
  clear hb7 hF7 s7 s75
  have NB' : Below b2 Y2 Y6 := nxt2 NB nS (Nat.le_trans lb2 NB.size)
  clear NB
  have NB := NB'
  clear NB'
  have N' := nxt N nS
  clear N
  have N := N'
  clear N'
  have Xb5' := hide (Xb5.out.up nS)
  clear Xb5
  have Xb5 := Xb5'
  clear Xb5'
  have Xg6' := hide (Xg6.out.up nS)
  clear Xg6
  have Xg6 := Xg6'
  clear Xg6'
  have HA' := hide (HA.out.up nS)
  clear HA
  have HA := HA'
  clear HA'
  clear nS
  have RA := Xb7.out.rangeG
  have RB := Xb5.out.rangeG
  have EQ := hide (eqMR_same Y6 p pw m cd nx HA.out.has (HUP.out Y6 NB) IS.out)
  go_wp2_with (first
    | (refine wpList_load_mid rfl 28 (.tmp 7) rfl b7 0 rfl [.int .i64 cd, .int .i64 m.k, .int .i64 m.v, .slice p.a2 m.r.length p.c2, .slice p.a3 m.s.length p.c3, .string ⟨⟨m.ho⟩⟩, .slice p.a5 m.pr.length p.c5, .slice p.a6 m.ti.length p.c6, .int .i64 m.ag, .int .i64 m.ea, .slice p.a9 m.bi.length p.c9, .bool m.rs, .slice p.a11 m.ce.length p.c11, .slice p.a12 m.pf.length p.c12, .int .i64 nx] d15 RA hd15 hrow15 iMR ?_)
    | (refine wpList_load_mid rfl 28 (.tmp 5) rfl b5 0 rfl [.int .i64 cd, .int .i64 m.k, .int .i64 m.v, .slice pw.a2 m.r.length pw.c2, .slice pw.a3 m.s.length pw.c3, .string ⟨⟨m.ho⟩⟩, .slice pw.a5 m.pr.length pw.c5, .slice pw.a6 m.ti.length pw.c6, .int .i64 m.ag, .int .i64 m.ea, .slice pw.a9 m.bi.length pw.c9, .bool m.rs, .slice pw.a11 m.ce.length pw.c11, .slice pw.a12 m.pf.length pw.c12, .int .i64 nx] d15 RB hd15 hrow15 iMR ?_)
    | fail)
  refine EQ.out.mono ?_
  rintro e Y7 ⟨rfl, nQ⟩
  clear EQ RA RB
  have NB' : Below b2 Y2 Y7 := nxt2 NB nQ (Nat.le_trans lb2 NB.size)
  clear NB
  have NB := NB'
  clear NB'
  have N' := nxt N nQ
  clear N
  have N := N'
  clear N'
  have Xb5' := hide (Xb5.out.up nQ)
  clear Xb5
  have Xb5 := Xb5'
  clear Xb5'
  have Xg6' := hide (Xg6.out.up nQ)
  clear Xg6
  have Xg6 := Xg6'
  clear Xg6'
  have HA' := hide (HA.out.up nQ)
  clear HA
  have HA := HA'
  clear HA'
  have Xb7' := hide (Xb7.out.up nQ)
  clear Xb7
  have Xb7 := Xb7'
  clear Xb7'
  clear nQ
  go_upto_region 8 with fail
  have TB := hide (toByteS_any Y7 g0 a0 c0 X0 (HX.out.up N) q0)
  go_wp2_with fail
  refine TB.out.mono ?_
  rintro e Y8 ⟨rfl, hB, nB⟩
  clear TB
  obtain ⟨g8, hg8⟩ : ∃ g, Y7.heap.size = g := ⟨_, rfl⟩
  rw [hg8] at hB ⊢
  have lg8 : w.heap.size ≤ g8 := by rw [← hg8]; exact N.size
  have mg8 : b2 ≤ g8 := by rw [← hg8]; exact Nat.le_trans lb2 NB.size
  clear hg8
  have Xg8 := hide hB
  clear hB
  have NB' : Below b2 Y2 Y8 := nxt2 NB nB (Nat.le_trans lb2 NB.size)
  clear NB
  have NB := NB'
  clear NB'
  have N' := nxt N nB
  clear N
  have N := N'
  clear N'
  have Xb5' := hide (Xb5.out.up nB)
  clear Xb5
  have Xb5 := Xb5'
  clear Xb5'
  have Xg6' := hide (Xg6.out.up nB)
  clear Xg6
  have Xg6 := Xg6'
  clear Xg6'
  have HA' := hide (HA.out.up nB)
  clear HA
  have HA := HA'
  clear HA'
  have Xb7' := hide (Xb7.out.up nB)
  clear Xb7
  have Xb7 := Xb7'
  clear Xb7'
  clear nB
  have EB := hide (eqByteS_same Y8 g6 g8 (some ⟨g6, 0, none⟩) (some ⟨g8, 0, none⟩) X0.length X0.length X0 Xg6.out.own0.rd Xg8.out.own0.rd q0)
  go_wp2_with fail
  refine EB.out.mono ?_
  rintro e Y9 ⟨rfl, nE⟩
  clear EB Xg8 mg8 lg8
  have NB' : Below b2 Y2 Y9 := nxt2 NB nE (Nat.le_trans lb2 NB.size)
  clear NB
  have NB := NB'
  clear NB'
  have N' := nxt N nE
  clear N
  have N := N'
  clear N'
  have Xb5' := hide (Xb5.out.up nE)
  clear Xb5
  have Xb5 := Xb5'
  clear Xb5'
  have Xg6' := hide (Xg6.out.up nE)
  clear Xg6
  have Xg6 := Xg6'
  clear Xg6'
  have HA' := hide (HA.out.up nE)
  clear HA
  have HA := HA'
  clear HA'
  have Xb7' := hide (Xb7.out.up nE)
  clear Xb7
  have Xb7 := Xb7'
  clear Xb7'
  clear nE
  have MB := hide (markByteS_any Y9 g6 (some ⟨g6, 0, none⟩) X0.length X0 1 Xg6.out.own0 q0 (by omega) (by omega))
  go_wp2_with fail
  refine MB.out.mono ?_
  rintro e Y10 ⟨rfl, -, O⟩
  clear MB Xg6
  have Xb5' : Hid (RwC Y10 b5 [.int .i64 cd, .int .i64 m.k, .int .i64 m.v, .slice pw.a2 m.r.length pw.c2, .slice pw.a3 m.s.length pw.c3, .string ⟨⟨m.ho⟩⟩, .slice pw.a5 m.pr.length pw.c5, .slice pw.a6 m.ti.length pw.c6, .int .i64 m.ag, .int .i64 m.ea, .slice pw.a9 m.bi.length pw.c9, .bool m.rs, .slice pw.a11 m.ce.length pw.c11, .slice pw.a12 m.pf.length pw.c12, .int .i64 nx] 28) := (O.block b5 (by omega)).trans Xb5.out
  have Xb7' : Hid (RwC Y10 b7 [.int .i64 cd, .int .i64 m.k, .int .i64 m.v, .slice p.a2 m.r.length p.c2, .slice p.a3 m.s.length p.c3, .string ⟨⟨m.ho⟩⟩, .slice p.a5 m.pr.length p.c5, .slice p.a6 m.ti.length p.c6, .int .i64 m.ag, .int .i64 m.ea, .slice p.a9 m.bi.length p.c9, .bool m.rs, .slice p.a11 m.ce.length p.c11, .slice p.a12 m.pf.length p.c12, .int .i64 nx] 28) := (O.block b7 (by omega)).trans Xb7.out
  have HA' := hide (HA.out.onl O f6)
  have N' : Below w.heap.size w Y10 := N.trans (O.below lg6)
  have NB' : Below b2 Y2 Y10 := NB.trans (O.below mg6)
  clear Xb5 Xb7 HA N NB O
  have Xb5 := Xb5'
  have Xb7 := Xb7'
  have HA := HA'
  have N := N'
  have NB := NB'
  clear Xb5' Xb7' HA' N' NB'
  have t1 : decide ((1 : Int) + (X0.length : Int) < 0) = false := decide_eq_false (by omega)
  have RA := Xb7.out.rangeG
  have RB := Xb5.out.rangeG
  have EQ := hide (eqMR_same Y10 p pw m cd nx HA.out.has (HUP.out Y10 NB) IS.out)
  go_wp2_with (first
    | (refine wpList_load_midW rfl 28 (.tmp 7) rfl b7 0 rfl [.int .i64 cd, .int .i64 m.k, .int .i64 m.v, .slice p.a2 m.r.length p.c2, .slice p.a3 m.s.length p.c3, .string ⟨⟨m.ho⟩⟩, .slice p.a5 m.pr.length p.c5, .slice p.a6 m.ti.length p.c6, .int .i64 m.ag, .int .i64 m.ea, .slice p.a9 m.bi.length p.c9, .bool m.rs, .slice p.a11 m.ce.length p.c11, .slice p.a12 m.pf.length p.c12, .int .i64 nx] d15 RA hd15 hrow15 iMR ?_)
    | (refine wpList_load_midW rfl 28 (.tmp 5) rfl b5 0 rfl [.int .i64 cd, .int .i64 m.k, .int .i64 m.v, .slice pw.a2 m.r.length pw.c2, .slice pw.a3 m.s.length pw.c3, .string ⟨⟨m.ho⟩⟩, .slice pw.a5 m.pr.length pw.c5, .slice pw.a6 m.ti.length pw.c6, .int .i64 m.ag, .int .i64 m.ea, .slice pw.a9 m.bi.length pw.c9, .bool m.rs, .slice pw.a11 m.ce.length pw.c11, .slice pw.a12 m.pf.length pw.c12, .int .i64 nx] d15 RB hd15 hrow15 iMR ?_)
    | fail)
  refine EQ.out.mono ?_
  rintro e Y11 ⟨rfl, nQ⟩
  clear EQ RA RB
  have NB' : Below b2 Y2 Y11 := nxt2 NB nQ (Nat.le_trans lb2 NB.size)
  clear NB
  have NB := NB'
  clear NB'
  have N' := nxt N nQ
  clear N
  have N := N'
  clear N'
  have Xb5' := hide (Xb5.out.up nQ)
  clear Xb5
  have Xb5 := Xb5'
  clear Xb5'
  have HA' := hide (HA.out.up nQ)
  clear HA
  have HA := HA'
  clear HA'
  have Xb7' := hide (Xb7.out.up nQ)
  clear Xb7
  have Xb7 := Xb7'
  clear Xb7'
  clear nQ
  clear t1
  go_upto_region 15 with fail
  have RA := Xb7.out.rangeG
  have MM := hide (markMR_ans Y11 F p m bs cd nx HA.out (by have := Xb7.out.lt; omega) SM.out)
  rw [hnn.out] at MM
  go_wp2_with (first
    | (refine wpList_load_mid rfl 28 (.tmp 7) rfl b7 0 rfl [.int .i64 cd, .int .i64 m.k, .int .i64 m.v, .slice p.a2 m.r.length p.c2, .slice p.a3 m.s.length p.c3, .string ⟨⟨m.ho⟩⟩, .slice p.a5 m.pr.length p.c5, .slice p.a6 m.ti.length p.c6, .int .i64 m.ag, .int .i64 m.ea, .slice p.a9 m.bi.length p.c9, .bool m.rs, .slice p.a11 m.ce.length p.c11, .slice p.a12 m.pf.length p.c12, .int .i64 nx] d15 RA hd15 hrow15 iMR ?_)
    | fail)
  refine MM.out.mono ?_
  rintro e Y12 ⟨rfl, MK, C⟩
  have f07 : F 0 ≤ F 7 := by have := HA.out.mono; omega
  clear MM RA HA
  have mo7 : F 0 ≤ Y11.heap.size := by have := Xb7.out.lt; have := Xb5.out.lt; omega
  have CB := C.below mo7
  have Xb5' : Hid (RwC Y12 b5 [.int .i64 cd, .int .i64 m.k, .int .i64 m.v, .slice pw.a2 m.r.length pw.c2, .slice pw.a3 m.s.length pw.c3, .string ⟨⟨m.ho⟩⟩, .slice pw.a5 m.pr.length pw.c5, .slice pw.a6 m.ti.length pw.c6, .int .i64 m.ag, .int .i64 m.ea, .slice pw.a9 m.bi.length pw.c9, .bool m.rs, .slice pw.a11 m.ce.length pw.c11, .slice pw.a12 m.pf.length pw.c12, .int .i64 nx] 28) := (C.block b5 Xb5.out.lt (.inl f5)).trans Xb5.out
  have Xb7' : Hid (RwC Y12 b7 [.int .i64 cd, .int .i64 m.k, .int .i64 m.v, .slice p.a2 m.r.length p.c2, .slice p.a3 m.s.length p.c3, .string ⟨⟨m.ho⟩⟩, .slice p.a5 m.pr.length p.c5, .slice p.a6 m.ti.length p.c6, .int .i64 m.ag, .int .i64 m.ea, .slice p.a9 m.bi.length p.c9, .bool m.rs, .slice p.a11 m.ce.length p.c11, .slice p.a12 m.pf.length p.c12, .int .i64 nx] 28) := (C.block b7 Xb7.out.lt (.inr f7)).trans Xb7.out
  have N' : Below w.heap.size w Y12 := N.trans (CB.mono (by omega))
  have NB' : Below b2 Y2 Y12 := NB.trans (CB.mono f2)
  have HK := hide MK
  clear Xb5 Xb7 N NB C CB mo7 MK
  have Xb5 := Xb5'
  have Xb7 := Xb7'
  have N := N'
  have NB := NB'
  clear Xb5' Xb7' N' NB'
  have RA := Xb7.out.rangeG
  have HH := hide (heldMR_mk Y12 p m bs cd nx HK.out SM.out)
  rw [hnn.out] at HH
  go_wp2_with (first
    | (refine wpList_load_mid rfl 28 (.tmp 7) rfl b7 0 rfl [.int .i64 cd, .int .i64 m.k, .int .i64 m.v, .slice p.a2 m.r.length p.c2, .slice p.a3 m.s.length p.c3, .string ⟨⟨m.ho⟩⟩, .slice p.a5 m.pr.length p.c5, .slice p.a6 m.ti.length p.c6, .int .i64 m.ag, .int .i64 m.ea, .slice p.a9 m.bi.length p.c9, .bool m.rs, .slice p.a11 m.ce.length p.c11, .slice p.a12 m.pf.length p.c12, .int .i64 nx] d15 RA hd15 hrow15 iMR ?_)
    | fail)
  refine HH.out.mono ?_
  rintro e Y13 ⟨rfl, nH⟩
  clear HH RA
  have NB' : Below b2 Y2 Y13 := nxt2 NB nH (Nat.le_trans lb2 NB.size)
  clear NB
  have NB := NB'
  clear NB'
  have N' := nxt N nH
  clear N
  have N := N'
  clear N'
  have Xb5' := hide (Xb5.out.up nH)
  clear Xb5
  have Xb5 := Xb5'
  clear Xb5'
  have Xb7' := hide (Xb7.out.up nH)
  clear Xb7
  have Xb7 := Xb7'
  clear Xb7'
  have HK' := hide (HK.out.up nH)
  clear HK
  have HK := HK'
  clear HK'
  clear nH
  go_upto_region 22 with fail
  have TB := hide (toByteS_any Y13 g0 a0 c0 X0 (HX.out.up N) q0)
  go_wp2_with fail
  refine TB.out.mono ?_
  rintro e Y14 ⟨rfl, hB, nB⟩
  clear TB
  obtain ⟨g9, hg9⟩ : ∃ g, Y13.heap.size = g := ⟨_, rfl⟩
  rw [hg9] at hB ⊢
  have lg9 : w.heap.size ≤ g9 := by rw [← hg9]; exact N.size
  have mg9 : b2 ≤ g9 := by rw [← hg9]; exact Nat.le_trans lb2 NB.size
  clear hg9
  have Xg9 := hide hB
  clear hB
  have NB' : Below b2 Y2 Y14 := nxt2 NB nB (Nat.le_trans lb2 NB.size)
  clear NB
  have NB := NB'
  clear NB'
  have N' := nxt N nB
  clear N
  have N := N'
  clear N'
  have Xb5' := hide (Xb5.out.up nB)
  clear Xb5
  have Xb5 := Xb5'
  clear Xb5'
  have Xb7' := hide (Xb7.out.up nB)
  clear Xb7
  have Xb7 := Xb7'
  clear Xb7'
  have HK' := hide (HK.out.up nB)
  clear HK
  have HK := HK'
  clear HK'
  clear nB
  have CI := hide (IM.out Y14 g9 Xg9.out)
  go_wp2_with fail
  refine CI.out.mono ?_
  rintro e Y15 ⟨⟨p', bs', F', rfl, -, -, hA⟩, n5⟩
  clear CI Xg9 lg9 mg9
  have HA := hide hA
  clear hA
  have NB' : Below b2 Y2 Y15 := nxt2 NB n5 (Nat.le_trans lb2 NB.size)
  clear NB
  have NB := NB'
  clear NB'
  have N' := nxt N n5
  clear N
  have N := N'
  clear N'
  have Xb5' := hide (Xb5.out.up n5)
  clear Xb5
  have Xb5 := Xb5'
  clear Xb5'
  have Xb7' := hide (Xb7.out.up n5)
  clear Xb7
  have Xb7 := Xb7'
  clear Xb7'
  have HK' := hide (HK.out.up n5)
  clear HK
  have HK := HK'
  clear HK'
  clear n5
  have nA : Below Y15.heap.size Y15 (Y15.alloc (.cells #[.int .i64 0, .int .i64 0, .int .i64 0, .slice none 0 0, .slice none 0 0, .string ⟨#[]⟩, .slice none 0 0, .slice none 0 0, .int .i64 0, .int .i64 0, .slice none 0 0, .bool false, .slice none 0 0, .slice none 0 0, .int .i64 0] 28)) := (Below.refl _ _).alloc (Nat.le_refl _) _
  have ZA : RwC (Y15.alloc (.cells #[.int .i64 0, .int .i64 0, .int .i64 0, .slice none 0 0, .slice none 0 0, .string ⟨#[]⟩, .slice none 0 0, .slice none 0 0, .int .i64 0, .int .i64 0, .slice none 0 0, .bool false, .slice none 0 0, .slice none 0 0, .int .i64 0] 28)) Y15.heap.size [.int .i64 0, .int .i64 0, .int .i64 0, .slice none 0 0, .slice none 0 0, .string ⟨#[]⟩, .slice none 0 0, .slice none 0 0, .int .i64 0, .int .i64 0, .slice none 0 0, .bool false, .slice none 0 0, .slice none 0 0, .int .i64 0] 28 := RwC.new Y15 _ _
  have OQ := only_setG (Y15.alloc (.cells #[.int .i64 0, .int .i64 0, .int .i64 0, .slice none 0 0, .slice none 0 0, .string ⟨#[]⟩, .slice none 0 0, .slice none 0 0, .int .i64 0, .int .i64 0, .slice none 0 0, .bool false, .slice none 0 0, .slice none 0 0, .int .i64 0] 28)) Y15.heap.size [.int .i64 cd, .int .i64 m.k, .int .i64 m.v, .slice p'.a2 m.r.length p'.c2, .slice p'.a3 m.s.length p'.c3, .string ⟨⟨m.ho⟩⟩, .slice p'.a5 m.pr.length p'.c5, .slice p'.a6 m.ti.length p'.c6, .int .i64 m.ag, .int .i64 m.ea, .slice p'.a9 m.bi.length p'.c9, .bool m.rs, .slice p'.a11 m.ce.length p'.c11, .slice p'.a12 m.pf.length p'.c12, .int .i64 nx] 0
  have BX : RwC ((Y15.alloc (.cells #[.int .i64 0, .int .i64 0, .int .i64 0, .slice none 0 0, .slice none 0 0, .string ⟨#[]⟩, .slice none 0 0, .slice none 0 0, .int .i64 0, .int .i64 0, .slice none 0 0, .bool false, .slice none 0 0, .slice none 0 0, .int .i64 0] 28)).setCells Y15.heap.size 0 [.int .i64 cd, .int .i64 m.k, .int .i64 m.v, .slice p'.a2 m.r.length p'.c2, .slice p'.a3 m.s.length p'.c3, .string ⟨⟨m.ho⟩⟩, .slice p'.a5 m.pr.length p'.c5, .slice p'.a6 m.ti.length p'.c6, .int .i64 m.ag, .int .i64 m.ea, .slice p'.a9 m.bi.length p'.c9, .bool m.rs, .slice p'.a11 m.ce.length p'.c11, .slice p'.a12 m.pf.length p'.c12, .int .i64 nx]) Y15.heap.size [.int .i64 cd, .int .i64 m.k, .int .i64 m.v, .slice p'.a2 m.r.length p'.c2, .slice p'.a3 m.s.length p'.c3, .string ⟨⟨m.ho⟩⟩, .slice p'.a5 m.pr.length p'.c5, .slice p'.a6 m.ti.length p'.c6, .int .i64 m.ag, .int .i64 m.ea, .slice p'.a9 m.bi.length p'.c9, .bool m.rs, .slice p'.a11 m.ce.length p'.c11, .slice p'.a12 m.pf.length p'.c12, .int .i64 nx] 28 := ZA.put rfl
  have nS : Below Y15.heap.size Y15 ((Y15.alloc (.cells #[.int .i64 0, .int .i64 0, .int .i64 0, .slice none 0 0, .slice none 0 0, .string ⟨#[]⟩, .slice none 0 0, .slice none 0 0, .int .i64 0, .int .i64 0, .slice none 0 0, .bool false, .slice none 0 0, .slice none 0 0, .int .i64 0] 28)).setCells Y15.heap.size 0 [.int .i64 cd, .int .i64 m.k, .int .i64 m.v, .slice p'.a2 m.r.length p'.c2, .slice p'.a3 m.s.length p'.c3, .string ⟨⟨m.ho⟩⟩, .slice p'.a5 m.pr.length p'.c5, .slice p'.a6 m.ti.length p'.c6, .int .i64 m.ag, .int .i64 m.ea, .slice p'.a9 m.bi.length p'.c9, .bool m.rs, .slice p'.a11 m.ce.length p'.c11, .slice p'.a12 m.pf.length p'.c12, .int .i64 nx]) := nA.trans (OQ.below (Nat.le_refl _))
  have THR := ZA.thereG
  have ON : (#[.int .i64 cd, .int .i64 m.k, .int .i64 m.v, .slice p'.a2 m.r.length p'.c2, .slice p'.a3 m.s.length p'.c3, .string ⟨⟨m.ho⟩⟩, .slice p'.a5 m.pr.length p'.c5, .slice p'.a6 m.ti.length p'.c6, .int .i64 m.ag, .int .i64 m.ea, .slice p'.a9 m.bi.length p'.c9, .bool m.rs, .slice p'.a11 m.ce.length p'.c11, .slice p'.a12 m.pf.length p'.c12, .int .i64 nx] : Array Value).all (·.oneCell') = true := one15m cd p' m nx
  clear nA ZA OQ
  unfold rsV
  go_upto_region 23 with (refine wpList_store_mid rfl 28 (.tmp 11) (.tmp 58) rfl Y15.heap.size 0 #[.int .i64 cd, .int .i64 m.k, .int .i64 m.v, .slice p'.a2 m.r.length p'.c2, .slice p'.a3 m.s.length p'.c3, .string ⟨⟨m.ho⟩⟩, .slice p'.a5 m.pr.length p'.c5, .slice p'.a6 m.ti.length p'.c6, .int .i64 m.ag, .int .i64 m.ea, .slice p'.a9 m.bi.length p'.c9, .bool m.rs, .slice p'.a11 m.ce.length p'.c11, .slice p'.a12 m.pf.length p'.c12, .int .i64 nx] rfl rfl THR iMR ON ?_)
  clear THR ON
  generalize ((Y15.alloc (.cells #[.int .i64 0, .int .i64 0, .int .i64 0, .slice none 0 0, .slice none 0 0, .string ⟨#[]⟩, .slice none 0 0, .slice none 0 0, .int .i64 0, .int .i64 0, .slice none 0 0, .bool false, .slice none 0 0, .slice none 0 0, .int .i64 0] 28)).setCells Y15.heap.size 0 [.int .i64 cd, .int .i64 m.k, .int .i64 m.v, .slice p'.a2 m.r.length p'.c2, .slice p'.a3 m.s.length p'.c3, .string ⟨⟨m.ho⟩⟩, .slice p'.a5 m.pr.length p'.c5, .slice p'.a6 m.ti.length p'.c6, .int .i64 m.ag, .int .i64 m.ea, .slice p'.a9 m.bi.length p'.c9, .bool m.rs, .slice p'.a11 m.ce.length p'.c11, .slice p'.a12 m.pf.length p'.c12, .int .i64 nx]) = Y16 at *
  obtain ⟨b9, hb9⟩ : ∃ g, Y15.heap.size = g := ⟨_, rfl⟩
  have Xb9 : Hid (RwC Y16 Y15.heap.size [.int .i64 cd, .int .i64 m.k, .int .i64 m.v, .slice p'.a2 m.r.length p'.c2, .slice p'.a3 m.s.length p'.c3, .string ⟨⟨m.ho⟩⟩, .slice p'.a5 m.pr.length p'.c5, .slice p'.a6 m.ti.length p'.c6, .int .i64 m.ag, .int .i64 m.ea, .slice p'.a9 m.bi.length p'.c9, .bool m.rs, .slice p'.a11 m.ce.length p'.c11, .slice p'.a12 m.pf.length p'.c12, .int .i64 nx] 28) := BX
  clear BX
  rw [hb9] at Xb9 ⊢
  have wb9 : w.heap.size ≤ b9 := by rw [← hb9]; exact N.size
  clear hb9
  have NB' : Below b2 Y2 Y16 := nxt2 NB nS (Nat.le_trans lb2 NB.size)
  clear NB
  have NB := NB'
  clear NB'
  have N' := nxt N nS
  clear N
  have N := N'
  clear N'
  have Xb5' := hide (Xb5.out.up nS)
  clear Xb5
  have Xb5 := Xb5'
  clear Xb5'
  have Xb7' := hide (Xb7.out.up nS)
  clear Xb7
  have Xb7 := Xb7'
  clear Xb7'
  have HK' := hide (HK.out.up nS)
  clear HK
  have HK := HK'
  clear HK'
  have HA' := hide (HA.out.up nS)
  clear HA
  have HA := HA'
  clear HA'
  clear nS
  have RA := Xb9.out.rangeG
  have RB := Xb5.out.rangeG
  have EQ := hide (eqMR_same Y16 p' pw m cd nx HA.out.has (HUP.out Y16 NB) IS.out)
  go_wp2_with (first
    | (refine wpList_load_mid rfl 28 (.tmp 11) rfl b9 0 rfl [.int .i64 cd, .int .i64 m.k, .int .i64 m.v, .slice p'.a2 m.r.length p'.c2, .slice p'.a3 m.s.length p'.c3, .string ⟨⟨m.ho⟩⟩, .slice p'.a5 m.pr.length p'.c5, .slice p'.a6 m.ti.length p'.c6, .int .i64 m.ag, .int .i64 m.ea, .slice p'.a9 m.bi.length p'.c9, .bool m.rs, .slice p'.a11 m.ce.length p'.c11, .slice p'.a12 m.pf.length p'.c12, .int .i64 nx] d15 RA hd15 hrow15 iMR ?_)
    | (refine wpList_load_mid rfl 28 (.tmp 5) rfl b5 0 rfl [.int .i64 cd, .int .i64 m.k, .int .i64 m.v, .slice pw.a2 m.r.length pw.c2, .slice pw.a3 m.s.length pw.c3, .string ⟨⟨m.ho⟩⟩, .slice pw.a5 m.pr.length pw.c5, .slice pw.a6 m.ti.length pw.c6, .int .i64 m.ag, .int .i64 m.ea, .slice pw.a9 m.bi.length pw.c9, .bool m.rs, .slice pw.a11 m.ce.length pw.c11, .slice pw.a12 m.pf.length pw.c12, .int .i64 nx] d15 RB hd15 hrow15 iMR ?_)
    | fail)
  refine EQ.out.mono ?_
  rintro e Y17 ⟨rfl, nQ⟩
  clear EQ RA RB
  have NB' : Below b2 Y2 Y17 := nxt2 NB nQ (Nat.le_trans lb2 NB.size)
  clear NB
  have NB := NB'
  clear NB'
  have N' := nxt N nQ
  clear N
  have N := N'
  clear N'
  have Xb5' := hide (Xb5.out.up nQ)
  clear Xb5
  have Xb5 := Xb5'
  clear Xb5'
  have Xb7' := hide (Xb7.out.up nQ)
  clear Xb7
  have Xb7 := Xb7'
  clear Xb7'
  have HK' := hide (HK.out.up nQ)
  clear HK
  have HK := HK'
  clear HK'
  have HA' := hide (HA.out.up nQ)
  clear HA
  have HA := HA'
  clear HA'
  have Xb9' := hide (Xb9.out.up nQ)
  clear Xb9
  have Xb9 := Xb9'
  clear Xb9'
  clear nQ
  clear HA Xb9
  go_upto_region 26 with fail
  have RA := Xb7.out.rangeG
  have HH := hide (heldMR_mk Y17 p m bs cd nx HK.out SM.out)
  rw [hnn.out] at HH
  go_wp2_with (first
    | (refine wpList_load_mid rfl 28 (.tmp 7) rfl b7 0 rfl [.int .i64 cd, .int .i64 m.k, .int .i64 m.v, .slice p.a2 m.r.length p.c2, .slice p.a3 m.s.length p.c3, .string ⟨⟨m.ho⟩⟩, .slice p.a5 m.pr.length p.c5, .slice p.a6 m.ti.length p.c6, .int .i64 m.ag, .int .i64 m.ea, .slice p.a9 m.bi.length p.c9, .bool m.rs, .slice p.a11 m.ce.length p.c11, .slice p.a12 m.pf.length p.c12, .int .i64 nx] d15 RA hd15 hrow15 iMR ?_)
    | fail)
  refine HH.out.mono ?_
  rintro e Y18 ⟨rfl, nH⟩
  clear HH RA
  have NB' : Below b2 Y2 Y18 := nxt2 NB nH (Nat.le_trans lb2 NB.size)
  clear NB
  have NB := NB'
  clear NB'
  have N' := nxt N nH
  clear N
  have N := N'
  clear N'
  have Xb5' := hide (Xb5.out.up nH)
  clear Xb5
  have Xb5 := Xb5'
  clear Xb5'
  have Xb7' := hide (Xb7.out.up nH)
  clear Xb7
  have Xb7 := Xb7'
  clear Xb7'
  have HK' := hide (HK.out.up nH)
  clear HK
  have HK := HK'
  clear HK'
  clear nH
  have FIN := hide N
  clear N NB Xb5 Xb7 HK HUP SP IM
  go_wp2
  go_ret
  exact ⟨rfl, FIN.out⟩
end Go.Proofs.YtflecleofaeiiaaGreat
