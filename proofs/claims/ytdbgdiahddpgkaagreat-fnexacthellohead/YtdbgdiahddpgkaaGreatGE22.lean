import Derived.Test.YtdbgdiahddpgkaaGreatGE21
import Derived.Test.YtdbgdiahddpgkaaGreatGE18

/-
  A message copied into blocks of its own (written by gens/miv.py).
-/
namespace Go.Proofs.YtdbgdiahddpgkaaGreat
open Go Go.RowKit

/-- A copy's places. -/
def mqO (G2 G3 G5 G6 G9 G11 G12 : Nat) (Gs : List Nat) (m : Msg) : MQ := ⟨some ⟨G2, 0, none⟩, m.r.length, G2, some ⟨G3, 0, none⟩, m.s.length, G3, some ⟨G5, 0, none⟩, m.pr.length, G5, some ⟨G6, 0, none⟩, m.ti.length, G6, some ⟨G9, 0, none⟩, m.bi.length, G9, some ⟨G11, 0, none⟩, m.ce.length, G11, some ⟨G12, 0, none⟩, m.pf.length, G12, psO m.ce Gs⟩
/-- A message whose lists lie in blocks of their own, one behind the other, from block b on. -/
structure OwnM (b : Nat) (W : World) (G2 G3 G5 G6 G9 G11 G12 : Nat) (Gs : List Nat) (m : Msg) : Prop where
  r : Blk W G2 .u8 m.r
  s : Blk W G3 .u8 m.s
  pr : BlkT W G5 m.pr
  ti : Blk W G6 .u8 m.ti
  bi : Blk W G9 .u8 m.bi
  ce : RowO W G11 m.ce m.ce.length Gs
  pf : Blk W G12 .u8 m.pf
  o2 : b ≤ G2
  o3 : G2 < G3
  o5 : G3 < G5
  o6 : G5 < G6
  o9 : G6 < G9
  o11 : G9 < G11
  oc : ∀ i, i < m.ce.length → Gs.getD i 0 < G12
  o12 : G11 < G12
theorem OwnM.up {b : Nat} {W W' : World} {G2 G3 G5 G6 G9 G11 G12 : Nat} {Gs : List Nat} {m : Msg} (h : OwnM b W G2 G3 G5 G6 G9 G11 G12 Gs m) (n : Below W.heap.size W W') : OwnM b W' G2 G3 G5 G6 G9 G11 G12 Gs m :=
  ⟨h.r.up n, h.s.up n, h.pr.up n, h.ti.up n, h.bi.up n, h.ce.up n, h.pf.up n, h.o2, h.o3, h.o5, h.o6, h.o9, h.o11, h.oc, h.o12⟩
theorem OwnM.has {b : Nat} {W : World} {G2 G3 G5 G6 G9 G11 G12 : Nat} {Gs : List Nat} {m : Msg} (h : OwnM b W G2 G3 G5 G6 G9 G11 G12 Gs m) : HasM W (mqO G2 G3 G5 G6 G9 G11 G12 Gs m) m :=
  ⟨h.r.own0.rd, h.s.own0.rd, h.pr.rd, h.ti.own0.rd, h.bi.own0.rd, h.ce.rd, h.pf.own0.rd, Nat.le_refl _⟩
theorem mqO_z {G2 G3 G5 G6 G9 G11 G12 : Nat} {Gs : List Nat} {m : Msg} : HasZ (mqO G2 G3 G5 G6 G9 G11 G12 Gs m) m :=
  ⟨(fun h => by cases h), (fun h => by cases h), (fun h => by cases h), (fun h => by cases h), (fun h => by cases h), (fun i hi h => by
    have e : (psO m.ce Gs).getD i plb0 = _ := psO_get hi
    have h' : ((psO m.ce Gs).getD i plb0).a = none := h
    rw [e] at h'
    cases h')⟩
/-- A row of lists that lies behind block b. -/
def FO (b : Nat) (W : World) (g : Nat) (ce : List (List Int)) (Gs : List Nat) : Prop := RowO W g ce ce.length Gs ∧ b < g ∧ g < W.heap.size
theorem FO.up {b : Nat} {W W' : World} {g : Nat} {xs : List (List Int)} {Gs : List Nat} (h : FO b W g xs Gs) (n : Below W.heap.size W W') : FO b W' g xs Gs := ⟨h.1.up n, h.2.1, Nat.lt_of_lt_of_le h.2.2 n.size⟩
theorem FO.onl {b q : Nat} {W W' : World} {g : Nat} {xs : List (List Int)} {Gs : List Nat} (h : FO b W g xs Gs) (O : Only q W W') (hq : q ≤ b) : FO b W' g xs Gs := ⟨h.1.onl O (by have := h.2.1; omega), h.2.1, by rw [O.size]; exact h.2.2⟩
set_option maxHeartbeats 8000000 in
theorem toMessage_own (w : World) (p : MQ) (m : Msg) (h : HasM w p m) (i : IsM m) :
    Calls Tryz.prog 6 #[.agg (mgV p m)] w fun e w' => (∃ G2 G3 G5 G6 G9 G11 G12 Gs, e = .returned (.agg (mgV (mqO G2 G3 G5 G6 G9 G11 G12 Gs m) m)) ∧ OwnM w.heap.size w' G2 G3 G5 G6 G9 G11 G12 Gs m) ∧ Below w.heap.size w w' := by
  obtain ⟨k, v, r, s, ho, pr, ti, ag, ea, bi, rs, ce, pf⟩ := m
  obtain ⟨a2, c2, g2, a3, c3, g3, a5, c5, g5, a6, c6, g6, a9, c9, g9, a11, c11, g11, a12, c12, g12, ps⟩ := p
  obtain ⟨hr, hs, hpr, hti, hbi, hce, hpf, hprC⟩ := h
  obtain ⟨rB, sB, tiB, biB, pfB, ceB, rL, sL, prL, tiL, biL, ceL, pfL, ceZ, hoL, prZ⟩ := i
  simp only at hr hs hpr hti hbi hce hpf hprC rB sB tiB biB pfB ceB rL sL prL tiL biL ceL pfL ceZ hoL prZ
  clear rB sB tiB biB pfB ceB hoL prZ hprC
  have Hr := hide hr
  have Hs := hide hs
  have Hpr := hide hpr
  have Hti := hide hti
  have Hbi := hide hbi
  have Hce := hide hce
  have Hpf := hide hpf
  have CZ := hide ceZ
  clear hr hs hpr hti hbi hce hpf ceZ
  have T0 := TMs.new w 26 31 [.int .i64 k, .int .i64 v, .slice a2 r.length c2, .slice a3 s.length c3, .string ⟨⟨ho⟩⟩, .slice a5 pr.length c5, .slice a6 ti.length c6, .int .i64 ag, .int .i64 ea, .slice a9 bi.length c9, .bool rs, .slice a11 ce.length c11, .slice a12 pf.length c12] [.int .i64 0, .int .i64 0, .slice none 0 0, .slice none 0 0, .string ⟨#[]⟩, .slice none 0 0, .slice none 0 0, .int .i64 0, .int .i64 0, .slice none 0 0, .bool false, .slice none 0 0, .slice none 0 0]
  obtain ⟨d13, hd13, hrow13⟩ := rowM
  simp only [mgV]
  go_enter Tryz.func6, Tryz.ntmps6
  go_upto_region 2 with fail
  have T0 : TMs w (((w.alloc (.cells #[.int .i64 k, .int .i64 v, .slice a2 r.length c2, .slice a3 s.length c3, .string ⟨⟨ho⟩⟩, .slice a5 pr.length c5, .slice a6 ti.length c6, .int .i64 ag, .int .i64 ea, .slice a9 bi.length c9, .bool rs, .slice a11 ce.length c11, .slice a12 pf.length c12] 26)).alloc (.cells #[.int .i64 0, .int .i64 0, .slice none 0 0, .slice none 0 0, .string ⟨#[]⟩, .slice none 0 0, .slice none 0 0, .int .i64 0, .int .i64 0, .slice none 0 0, .bool false, .slice none 0 0, .slice none 0 0] 31)).alloc (.cells #[.int .i64 0, .int .i64 0, .slice none 0 0, .slice none 0 0, .string ⟨#[]⟩, .slice none 0 0, .slice none 0 0, .int .i64 0, .int .i64 0, .slice none 0 0, .bool false, .slice none 0 0, .slice none 0 0] 31)) 26 31 [.int .i64 k, .int .i64 v, .slice a2 r.length c2, .slice a3 s.length c3, .string ⟨⟨ho⟩⟩, .slice a5 pr.length c5, .slice a6 ti.length c6, .int .i64 ag, .int .i64 ea, .slice a9 bi.length c9, .bool rs, .slice a11 ce.length c11, .slice a12 pf.length c12] [.int .i64 0, .int .i64 0, .slice none 0 0, .slice none 0 0, .string ⟨#[]⟩, .slice none 0 0, .slice none 0 0, .int .i64 0, .int .i64 0, .slice none 0 0, .bool false, .slice none 0 0, .slice none 0 0] [.int .i64 0, .int .i64 0, .slice none 0 0, .slice none 0 0, .string ⟨#[]⟩, .slice none 0 0, .slice none 0 0, .int .i64 0, .int .i64 0, .slice none 0 0, .bool false, .slice none 0 0, .slice none 0 0] := T0
  generalize ((w.alloc (.cells #[.int .i64 k, .int .i64 v, .slice a2 r.length c2, .slice a3 s.length c3, .string ⟨⟨ho⟩⟩, .slice a5 pr.length c5, .slice a6 ti.length c6, .int .i64 ag, .int .i64 ea, .slice a9 bi.length c9, .bool rs, .slice a11 ce.length c11, .slice a12 pf.length c12] 26)).alloc (.cells #[.int .i64 0, .int .i64 0, .slice none 0 0, .slice none 0 0, .string ⟨#[]⟩, .slice none 0 0, .slice none 0 0, .int .i64 0, .int .i64 0, .slice none 0 0, .bool false, .slice none 0 0, .slice none 0 0] 31)).alloc (.cells #[.int .i64 0, .int .i64 0, .slice none 0 0, .slice none 0 0, .string ⟨#[]⟩, .slice none 0 0, .slice none 0 0, .int .i64 0, .int .i64 0, .slice none 0 0, .bool false, .slice none 0 0, .slice none 0 0] 31) = W0 at *
  have TH := hide T0
  clear T0
  have qS : W0.cell? ⟨w.heap.size, 0, none⟩ = some (.int .i64 k) := TH.out.S.cell 0
  have qT : W0.cell? ⟨w.heap.size + 1 + 1, 0, none⟩ = some (.int .i64 0) := TH.out.T.cell 0
  have qF := TH.out.T.free 0
  go_upto_region 3 with fail
  have TN : Hid (TMs w (W0.setCell ⟨w.heap.size + 1 + 1, 0, none⟩ (.int .i64 k)) 26 31 [.int .i64 k, .int .i64 v, .slice a2 r.length c2, .slice a3 s.length c3, .string ⟨⟨ho⟩⟩, .slice a5 pr.length c5, .slice a6 ti.length c6, .int .i64 ag, .int .i64 ea, .slice a9 bi.length c9, .bool rs, .slice a11 ce.length c11, .slice a12 pf.length c12] [.int .i64 0, .int .i64 0, .slice none 0 0, .slice none 0 0, .string ⟨#[]⟩, .slice none 0 0, .slice none 0 0, .int .i64 0, .int .i64 0, .slice none 0 0, .bool false, .slice none 0 0, .slice none 0 0] [.int .i64 k, .int .i64 0, .slice none 0 0, .slice none 0 0, .string ⟨#[]⟩, .slice none 0 0, .slice none 0 0, .int .i64 0, .int .i64 0, .slice none 0 0, .bool false, .slice none 0 0, .slice none 0 0]) := TH.out.set 0 _
  clear qS qT qF TH 
  generalize W0.setCell ⟨w.heap.size + 1 + 1, 0, none⟩ (.int .i64 k) = W1 at *
  have TH := TN
  clear TN
  have qS : W1.cell? ⟨w.heap.size, 1, none⟩ = some (.int .i64 v) := TH.out.S.cell 1
  have qT : W1.cell? ⟨w.heap.size + 1 + 1, 1, none⟩ = some (.int .i64 0) := TH.out.T.cell 1
  have qF := TH.out.T.free 1
  go_upto_region 4 with fail
  have TN : Hid (TMs w (W1.setCell ⟨w.heap.size + 1 + 1, 1, none⟩ (.int .i64 v)) 26 31 [.int .i64 k, .int .i64 v, .slice a2 r.length c2, .slice a3 s.length c3, .string ⟨⟨ho⟩⟩, .slice a5 pr.length c5, .slice a6 ti.length c6, .int .i64 ag, .int .i64 ea, .slice a9 bi.length c9, .bool rs, .slice a11 ce.length c11, .slice a12 pf.length c12] [.int .i64 0, .int .i64 0, .slice none 0 0, .slice none 0 0, .string ⟨#[]⟩, .slice none 0 0, .slice none 0 0, .int .i64 0, .int .i64 0, .slice none 0 0, .bool false, .slice none 0 0, .slice none 0 0] [.int .i64 k, .int .i64 v, .slice none 0 0, .slice none 0 0, .string ⟨#[]⟩, .slice none 0 0, .slice none 0 0, .int .i64 0, .int .i64 0, .slice none 0 0, .bool false, .slice none 0 0, .slice none 0 0]) := TH.out.set 1 _
  clear qS qT qF TH 
  generalize W1.setCell ⟨w.heap.size + 1 + 1, 1, none⟩ (.int .i64 v) = W2 at *
  have TH := TN
  clear TN
  have qS : W2.cell? ⟨w.heap.size, 2, none⟩ = some (.slice a2 r.length c2) := TH.out.S.cell 2
  have TB := hide (toByteS_any W2 g2 a2 c2 r (Hr.out.up TH.out.N) rL)
  go_wp2_with fail
  refine TB.out.mono ?_
  rintro e V2 ⟨rfl, B, m⟩
  have lt := TH.out.T.lt
  have TM := hide (TH.out.up m)
  clear TB qS TH m 
  obtain ⟨G2, hG2⟩ : ∃ G, W2.heap.size = G := ⟨_, rfl⟩
  rw [hG2] at B lt ⊢
  clear hG2
  have O2 := hide lt
  have A2 : Hid (FB (w.heap.size + 1 + 1) V2 G2 r) := ⟨B, lt⟩
  clear B lt
  have qT : V2.cell? ⟨w.heap.size + 1 + 1, 2, none⟩ = some (.slice none 0 0) := TM.out.T.cell 2
  have qF := TM.out.T.free 2
  go_upto_region 5 with fail
  have TN : Hid (TMs w (V2.setCell ⟨w.heap.size + 1 + 1, 2, none⟩ (.slice (some ⟨G2, 0, none⟩) r.length r.length)) 26 31 [.int .i64 k, .int .i64 v, .slice a2 r.length c2, .slice a3 s.length c3, .string ⟨⟨ho⟩⟩, .slice a5 pr.length c5, .slice a6 ti.length c6, .int .i64 ag, .int .i64 ea, .slice a9 bi.length c9, .bool rs, .slice a11 ce.length c11, .slice a12 pf.length c12] [.int .i64 0, .int .i64 0, .slice none 0 0, .slice none 0 0, .string ⟨#[]⟩, .slice none 0 0, .slice none 0 0, .int .i64 0, .int .i64 0, .slice none 0 0, .bool false, .slice none 0 0, .slice none 0 0] [.int .i64 k, .int .i64 v, .slice (some ⟨G2, 0, none⟩) r.length r.length, .slice none 0 0, .string ⟨#[]⟩, .slice none 0 0, .slice none 0 0, .int .i64 0, .int .i64 0, .slice none 0 0, .bool false, .slice none 0 0, .slice none 0 0]) := TM.out.set 2 _
  have C2 := hide (A2.out.onl (Only.setCell V2 (w.heap.size + 1 + 1) 2 (.slice (some ⟨G2, 0, none⟩) r.length r.length)) (Nat.le_refl _))
  clear qT qF TM A2 
  generalize V2.setCell ⟨w.heap.size + 1 + 1, 2, none⟩ (.slice (some ⟨G2, 0, none⟩) r.length r.length) = W3 at *
  have TH := TN
  clear TN
  have qS : W3.cell? ⟨w.heap.size, 3, none⟩ = some (.slice a3 s.length c3) := TH.out.S.cell 3
  have TB := hide (toByteS_any W3 g3 a3 c3 s (Hs.out.up TH.out.N) sL)
  go_wp2_with fail
  refine TB.out.mono ?_
  rintro e V3 ⟨rfl, B, m⟩
  have lt := TH.out.T.lt
  have TM := hide (TH.out.up m)
  have C2n := hide (C2.out.up m)
  have o3 : G2 < W3.heap.size := C2.out.1.lt
  clear TB qS TH m C2
  obtain ⟨G3, hG3⟩ : ∃ G, W3.heap.size = G := ⟨_, rfl⟩
  rw [hG3] at B lt o3 ⊢
  clear hG3
  have O3 := hide o3
  clear o3
  have A3 : Hid (FB (w.heap.size + 1 + 1) V3 G3 s) := ⟨B, lt⟩
  clear B lt
  have qT : V3.cell? ⟨w.heap.size + 1 + 1, 3, none⟩ = some (.slice none 0 0) := TM.out.T.cell 3
  have qF := TM.out.T.free 3
  go_upto_region 6 with fail
  have TN : Hid (TMs w (V3.setCell ⟨w.heap.size + 1 + 1, 3, none⟩ (.slice (some ⟨G3, 0, none⟩) s.length s.length)) 26 31 [.int .i64 k, .int .i64 v, .slice a2 r.length c2, .slice a3 s.length c3, .string ⟨⟨ho⟩⟩, .slice a5 pr.length c5, .slice a6 ti.length c6, .int .i64 ag, .int .i64 ea, .slice a9 bi.length c9, .bool rs, .slice a11 ce.length c11, .slice a12 pf.length c12] [.int .i64 0, .int .i64 0, .slice none 0 0, .slice none 0 0, .string ⟨#[]⟩, .slice none 0 0, .slice none 0 0, .int .i64 0, .int .i64 0, .slice none 0 0, .bool false, .slice none 0 0, .slice none 0 0] [.int .i64 k, .int .i64 v, .slice (some ⟨G2, 0, none⟩) r.length r.length, .slice (some ⟨G3, 0, none⟩) s.length s.length, .string ⟨#[]⟩, .slice none 0 0, .slice none 0 0, .int .i64 0, .int .i64 0, .slice none 0 0, .bool false, .slice none 0 0, .slice none 0 0]) := TM.out.set 3 _
  have C3 := hide (A3.out.onl (Only.setCell V3 (w.heap.size + 1 + 1) 3 (.slice (some ⟨G3, 0, none⟩) s.length s.length)) (Nat.le_refl _))
  have C2o := hide (C2n.out.onl (Only.setCell V3 (w.heap.size + 1 + 1) 3 (.slice (some ⟨G3, 0, none⟩) s.length s.length)) (Nat.le_refl _))
  clear qT qF TM A3 C2n
  generalize V3.setCell ⟨w.heap.size + 1 + 1, 3, none⟩ (.slice (some ⟨G3, 0, none⟩) s.length s.length) = W4 at *
  have TH := TN
  clear TN
  have C2 := C2o
  clear C2o
  have qS : W4.cell? ⟨w.heap.size, 4, none⟩ = some (.string ⟨⟨ho⟩⟩) := TH.out.S.cell 4
  have qT : W4.cell? ⟨w.heap.size + 1 + 1, 4, none⟩ = some (.string ⟨#[]⟩) := TH.out.T.cell 4
  have qF := TH.out.T.free 4
  go_upto_region 7 with fail
  have TN : Hid (TMs w (W4.setCell ⟨w.heap.size + 1 + 1, 4, none⟩ (.string ⟨⟨ho⟩⟩)) 26 31 [.int .i64 k, .int .i64 v, .slice a2 r.length c2, .slice a3 s.length c3, .string ⟨⟨ho⟩⟩, .slice a5 pr.length c5, .slice a6 ti.length c6, .int .i64 ag, .int .i64 ea, .slice a9 bi.length c9, .bool rs, .slice a11 ce.length c11, .slice a12 pf.length c12] [.int .i64 0, .int .i64 0, .slice none 0 0, .slice none 0 0, .string ⟨#[]⟩, .slice none 0 0, .slice none 0 0, .int .i64 0, .int .i64 0, .slice none 0 0, .bool false, .slice none 0 0, .slice none 0 0] [.int .i64 k, .int .i64 v, .slice (some ⟨G2, 0, none⟩) r.length r.length, .slice (some ⟨G3, 0, none⟩) s.length s.length, .string ⟨⟨ho⟩⟩, .slice none 0 0, .slice none 0 0, .int .i64 0, .int .i64 0, .slice none 0 0, .bool false, .slice none 0 0, .slice none 0 0]) := TH.out.set 4 _
  have C2n := hide (C2.out.onl (Only.setCell W4 (w.heap.size + 1 + 1) 4 (.string ⟨⟨ho⟩⟩)) (Nat.le_refl _))
  have C3n := hide (C3.out.onl (Only.setCell W4 (w.heap.size + 1 + 1) 4 (.string ⟨⟨ho⟩⟩)) (Nat.le_refl _))
  clear qS qT qF TH C2 C3
  generalize W4.setCell ⟨w.heap.size + 1 + 1, 4, none⟩ (.string ⟨⟨ho⟩⟩) = W5 at *
  have TH := TN
  clear TN
  have C2 := C2n
  clear C2n
  have C3 := C3n
  clear C3n
  have qS : W5.cell? ⟨w.heap.size, 5, none⟩ = some (.slice a5 pr.length c5) := TH.out.S.cell 5
  have TB := hide (toStringS_any W5 g5 a5 c5 pr (Hpr.out.up TH.out.N) prL)
  go_wp2_with fail
  refine TB.out.mono ?_
  rintro e V5 ⟨rfl, B, m⟩
  have lt := TH.out.T.lt
  have TM := hide (TH.out.up m)
  have C2n := hide (C2.out.up m)
  have C3n := hide (C3.out.up m)
  have o5 : G3 < W5.heap.size := C3.out.1.lt
  clear TB qS TH m C2 C3
  obtain ⟨G5, hG5⟩ : ∃ G, W5.heap.size = G := ⟨_, rfl⟩
  rw [hG5] at B lt o5 ⊢
  clear hG5
  have O5 := hide o5
  clear o5
  have A5 : Hid (FT (w.heap.size + 1 + 1) V5 G5 pr) := ⟨B, lt⟩
  clear B lt
  have qT : V5.cell? ⟨w.heap.size + 1 + 1, 5, none⟩ = some (.slice none 0 0) := TM.out.T.cell 5
  have qF := TM.out.T.free 5
  go_upto_region 8 with fail
  have TN : Hid (TMs w (V5.setCell ⟨w.heap.size + 1 + 1, 5, none⟩ (.slice (some ⟨G5, 0, none⟩) pr.length pr.length)) 26 31 [.int .i64 k, .int .i64 v, .slice a2 r.length c2, .slice a3 s.length c3, .string ⟨⟨ho⟩⟩, .slice a5 pr.length c5, .slice a6 ti.length c6, .int .i64 ag, .int .i64 ea, .slice a9 bi.length c9, .bool rs, .slice a11 ce.length c11, .slice a12 pf.length c12] [.int .i64 0, .int .i64 0, .slice none 0 0, .slice none 0 0, .string ⟨#[]⟩, .slice none 0 0, .slice none 0 0, .int .i64 0, .int .i64 0, .slice none 0 0, .bool false, .slice none 0 0, .slice none 0 0] [.int .i64 k, .int .i64 v, .slice (some ⟨G2, 0, none⟩) r.length r.length, .slice (some ⟨G3, 0, none⟩) s.length s.length, .string ⟨⟨ho⟩⟩, .slice (some ⟨G5, 0, none⟩) pr.length pr.length, .slice none 0 0, .int .i64 0, .int .i64 0, .slice none 0 0, .bool false, .slice none 0 0, .slice none 0 0]) := TM.out.set 5 _
  have C5 := hide (A5.out.onl (Only.setCell V5 (w.heap.size + 1 + 1) 5 (.slice (some ⟨G5, 0, none⟩) pr.length pr.length)) (Nat.le_refl _))
  have C2o := hide (C2n.out.onl (Only.setCell V5 (w.heap.size + 1 + 1) 5 (.slice (some ⟨G5, 0, none⟩) pr.length pr.length)) (Nat.le_refl _))
  have C3o := hide (C3n.out.onl (Only.setCell V5 (w.heap.size + 1 + 1) 5 (.slice (some ⟨G5, 0, none⟩) pr.length pr.length)) (Nat.le_refl _))
  clear qT qF TM A5 C2n C3n
  generalize V5.setCell ⟨w.heap.size + 1 + 1, 5, none⟩ (.slice (some ⟨G5, 0, none⟩) pr.length pr.length) = W6 at *
  have TH := TN
  clear TN
  have C2 := C2o
  clear C2o
  have C3 := C3o
  clear C3o
  have qS : W6.cell? ⟨w.heap.size, 6, none⟩ = some (.slice a6 ti.length c6) := TH.out.S.cell 6
  have TB := hide (toByteS_any W6 g6 a6 c6 ti (Hti.out.up TH.out.N) tiL)
  go_wp2_with fail
  refine TB.out.mono ?_
  rintro e V6 ⟨rfl, B, m⟩
  have lt := TH.out.T.lt
  have TM := hide (TH.out.up m)
  have C2n := hide (C2.out.up m)
  have C3n := hide (C3.out.up m)
  have C5n := hide (C5.out.up m)
  have o6 : G5 < W6.heap.size := C5.out.1.lt
  clear TB qS TH m C2 C3 C5
  obtain ⟨G6, hG6⟩ : ∃ G, W6.heap.size = G := ⟨_, rfl⟩
  rw [hG6] at B lt o6 ⊢
  clear hG6
  have O6 := hide o6
  clear o6
  have A6 : Hid (FB (w.heap.size + 1 + 1) V6 G6 ti) := ⟨B, lt⟩
  clear B lt
  have qT : V6.cell? ⟨w.heap.size + 1 + 1, 6, none⟩ = some (.slice none 0 0) := TM.out.T.cell 6
  have qF := TM.out.T.free 6
  go_upto_region 9 with fail
  have TN : Hid (TMs w (V6.setCell ⟨w.heap.size + 1 + 1, 6, none⟩ (.slice (some ⟨G6, 0, none⟩) ti.length ti.length)) 26 31 [.int .i64 k, .int .i64 v, .slice a2 r.length c2, .slice a3 s.length c3, .string ⟨⟨ho⟩⟩, .slice a5 pr.length c5, .slice a6 ti.length c6, .int .i64 ag, .int .i64 ea, .slice a9 bi.length c9, .bool rs, .slice a11 ce.length c11, .slice a12 pf.length c12] [.int .i64 0, .int .i64 0, .slice none 0 0, .slice none 0 0, .string ⟨#[]⟩, .slice none 0 0, .slice none 0 0, .int .i64 0, .int .i64 0, .slice none 0 0, .bool false, .slice none 0 0, .slice none 0 0] [.int .i64 k, .int .i64 v, .slice (some ⟨G2, 0, none⟩) r.length r.length, .slice (some ⟨G3, 0, none⟩) s.length s.length, .string ⟨⟨ho⟩⟩, .slice (some ⟨G5, 0, none⟩) pr.length pr.length, .slice (some ⟨G6, 0, none⟩) ti.length ti.length, .int .i64 0, .int .i64 0, .slice none 0 0, .bool false, .slice none 0 0, .slice none 0 0]) := TM.out.set 6 _
  have C6 := hide (A6.out.onl (Only.setCell V6 (w.heap.size + 1 + 1) 6 (.slice (some ⟨G6, 0, none⟩) ti.length ti.length)) (Nat.le_refl _))
  have C2o := hide (C2n.out.onl (Only.setCell V6 (w.heap.size + 1 + 1) 6 (.slice (some ⟨G6, 0, none⟩) ti.length ti.length)) (Nat.le_refl _))
  have C3o := hide (C3n.out.onl (Only.setCell V6 (w.heap.size + 1 + 1) 6 (.slice (some ⟨G6, 0, none⟩) ti.length ti.length)) (Nat.le_refl _))
  have C5o := hide (C5n.out.onl (Only.setCell V6 (w.heap.size + 1 + 1) 6 (.slice (some ⟨G6, 0, none⟩) ti.length ti.length)) (Nat.le_refl _))
  clear qT qF TM A6 C2n C3n C5n
  generalize V6.setCell ⟨w.heap.size + 1 + 1, 6, none⟩ (.slice (some ⟨G6, 0, none⟩) ti.length ti.length) = W7 at *
  have TH := TN
  clear TN
  have C2 := C2o
  clear C2o
  have C3 := C3o
  clear C3o
  have C5 := C5o
  clear C5o
  have qS : W7.cell? ⟨w.heap.size, 7, none⟩ = some (.int .i64 ag) := TH.out.S.cell 7
  have qT : W7.cell? ⟨w.heap.size + 1 + 1, 7, none⟩ = some (.int .i64 0) := TH.out.T.cell 7
  have qF := TH.out.T.free 7
  go_upto_region 10 with fail
  have TN : Hid (TMs w (W7.setCell ⟨w.heap.size + 1 + 1, 7, none⟩ (.int .i64 ag)) 26 31 [.int .i64 k, .int .i64 v, .slice a2 r.length c2, .slice a3 s.length c3, .string ⟨⟨ho⟩⟩, .slice a5 pr.length c5, .slice a6 ti.length c6, .int .i64 ag, .int .i64 ea, .slice a9 bi.length c9, .bool rs, .slice a11 ce.length c11, .slice a12 pf.length c12] [.int .i64 0, .int .i64 0, .slice none 0 0, .slice none 0 0, .string ⟨#[]⟩, .slice none 0 0, .slice none 0 0, .int .i64 0, .int .i64 0, .slice none 0 0, .bool false, .slice none 0 0, .slice none 0 0] [.int .i64 k, .int .i64 v, .slice (some ⟨G2, 0, none⟩) r.length r.length, .slice (some ⟨G3, 0, none⟩) s.length s.length, .string ⟨⟨ho⟩⟩, .slice (some ⟨G5, 0, none⟩) pr.length pr.length, .slice (some ⟨G6, 0, none⟩) ti.length ti.length, .int .i64 ag, .int .i64 0, .slice none 0 0, .bool false, .slice none 0 0, .slice none 0 0]) := TH.out.set 7 _
  have C2n := hide (C2.out.onl (Only.setCell W7 (w.heap.size + 1 + 1) 7 (.int .i64 ag)) (Nat.le_refl _))
  have C3n := hide (C3.out.onl (Only.setCell W7 (w.heap.size + 1 + 1) 7 (.int .i64 ag)) (Nat.le_refl _))
  have C5n := hide (C5.out.onl (Only.setCell W7 (w.heap.size + 1 + 1) 7 (.int .i64 ag)) (Nat.le_refl _))
  have C6n := hide (C6.out.onl (Only.setCell W7 (w.heap.size + 1 + 1) 7 (.int .i64 ag)) (Nat.le_refl _))
  clear qS qT qF TH C2 C3 C5 C6
  generalize W7.setCell ⟨w.heap.size + 1 + 1, 7, none⟩ (.int .i64 ag) = W8 at *
  have TH := TN
  clear TN
  have C2 := C2n
  clear C2n
  have C3 := C3n
  clear C3n
  have C5 := C5n
  clear C5n
  have C6 := C6n
  clear C6n
  have qS : W8.cell? ⟨w.heap.size, 8, none⟩ = some (.int .i64 ea) := TH.out.S.cell 8
  have qT : W8.cell? ⟨w.heap.size + 1 + 1, 8, none⟩ = some (.int .i64 0) := TH.out.T.cell 8
  have qF := TH.out.T.free 8
  go_upto_region 11 with fail
  have TN : Hid (TMs w (W8.setCell ⟨w.heap.size + 1 + 1, 8, none⟩ (.int .i64 ea)) 26 31 [.int .i64 k, .int .i64 v, .slice a2 r.length c2, .slice a3 s.length c3, .string ⟨⟨ho⟩⟩, .slice a5 pr.length c5, .slice a6 ti.length c6, .int .i64 ag, .int .i64 ea, .slice a9 bi.length c9, .bool rs, .slice a11 ce.length c11, .slice a12 pf.length c12] [.int .i64 0, .int .i64 0, .slice none 0 0, .slice none 0 0, .string ⟨#[]⟩, .slice none 0 0, .slice none 0 0, .int .i64 0, .int .i64 0, .slice none 0 0, .bool false, .slice none 0 0, .slice none 0 0] [.int .i64 k, .int .i64 v, .slice (some ⟨G2, 0, none⟩) r.length r.length, .slice (some ⟨G3, 0, none⟩) s.length s.length, .string ⟨⟨ho⟩⟩, .slice (some ⟨G5, 0, none⟩) pr.length pr.length, .slice (some ⟨G6, 0, none⟩) ti.length ti.length, .int .i64 ag, .int .i64 ea, .slice none 0 0, .bool false, .slice none 0 0, .slice none 0 0]) := TH.out.set 8 _
  have C2n := hide (C2.out.onl (Only.setCell W8 (w.heap.size + 1 + 1) 8 (.int .i64 ea)) (Nat.le_refl _))
  have C3n := hide (C3.out.onl (Only.setCell W8 (w.heap.size + 1 + 1) 8 (.int .i64 ea)) (Nat.le_refl _))
  have C5n := hide (C5.out.onl (Only.setCell W8 (w.heap.size + 1 + 1) 8 (.int .i64 ea)) (Nat.le_refl _))
  have C6n := hide (C6.out.onl (Only.setCell W8 (w.heap.size + 1 + 1) 8 (.int .i64 ea)) (Nat.le_refl _))
  clear qS qT qF TH C2 C3 C5 C6
  generalize W8.setCell ⟨w.heap.size + 1 + 1, 8, none⟩ (.int .i64 ea) = W9 at *
  have TH := TN
  clear TN
  have C2 := C2n
  clear C2n
  have C3 := C3n
  clear C3n
  have C5 := C5n
  clear C5n
  have C6 := C6n
  clear C6n
  have qS : W9.cell? ⟨w.heap.size, 9, none⟩ = some (.slice a9 bi.length c9) := TH.out.S.cell 9
  have TB := hide (toByteS_any W9 g9 a9 c9 bi (Hbi.out.up TH.out.N) biL)
  go_wp2_with fail
  refine TB.out.mono ?_
  rintro e V9 ⟨rfl, B, m⟩
  have lt := TH.out.T.lt
  have TM := hide (TH.out.up m)
  have C2n := hide (C2.out.up m)
  have C3n := hide (C3.out.up m)
  have C5n := hide (C5.out.up m)
  have C6n := hide (C6.out.up m)
  have o9 : G6 < W9.heap.size := C6.out.1.lt
  clear TB qS TH m C2 C3 C5 C6
  obtain ⟨G9, hG9⟩ : ∃ G, W9.heap.size = G := ⟨_, rfl⟩
  rw [hG9] at B lt o9 ⊢
  clear hG9
  have O9 := hide o9
  clear o9
  have A9 : Hid (FB (w.heap.size + 1 + 1) V9 G9 bi) := ⟨B, lt⟩
  clear B lt
  have qT : V9.cell? ⟨w.heap.size + 1 + 1, 9, none⟩ = some (.slice none 0 0) := TM.out.T.cell 9
  have qF := TM.out.T.free 9
  go_upto_region 12 with fail
  have TN : Hid (TMs w (V9.setCell ⟨w.heap.size + 1 + 1, 9, none⟩ (.slice (some ⟨G9, 0, none⟩) bi.length bi.length)) 26 31 [.int .i64 k, .int .i64 v, .slice a2 r.length c2, .slice a3 s.length c3, .string ⟨⟨ho⟩⟩, .slice a5 pr.length c5, .slice a6 ti.length c6, .int .i64 ag, .int .i64 ea, .slice a9 bi.length c9, .bool rs, .slice a11 ce.length c11, .slice a12 pf.length c12] [.int .i64 0, .int .i64 0, .slice none 0 0, .slice none 0 0, .string ⟨#[]⟩, .slice none 0 0, .slice none 0 0, .int .i64 0, .int .i64 0, .slice none 0 0, .bool false, .slice none 0 0, .slice none 0 0] [.int .i64 k, .int .i64 v, .slice (some ⟨G2, 0, none⟩) r.length r.length, .slice (some ⟨G3, 0, none⟩) s.length s.length, .string ⟨⟨ho⟩⟩, .slice (some ⟨G5, 0, none⟩) pr.length pr.length, .slice (some ⟨G6, 0, none⟩) ti.length ti.length, .int .i64 ag, .int .i64 ea, .slice (some ⟨G9, 0, none⟩) bi.length bi.length, .bool false, .slice none 0 0, .slice none 0 0]) := TM.out.set 9 _
  have C9 := hide (A9.out.onl (Only.setCell V9 (w.heap.size + 1 + 1) 9 (.slice (some ⟨G9, 0, none⟩) bi.length bi.length)) (Nat.le_refl _))
  have C2o := hide (C2n.out.onl (Only.setCell V9 (w.heap.size + 1 + 1) 9 (.slice (some ⟨G9, 0, none⟩) bi.length bi.length)) (Nat.le_refl _))
  have C3o := hide (C3n.out.onl (Only.setCell V9 (w.heap.size + 1 + 1) 9 (.slice (some ⟨G9, 0, none⟩) bi.length bi.length)) (Nat.le_refl _))
  have C5o := hide (C5n.out.onl (Only.setCell V9 (w.heap.size + 1 + 1) 9 (.slice (some ⟨G9, 0, none⟩) bi.length bi.length)) (Nat.le_refl _))
  have C6o := hide (C6n.out.onl (Only.setCell V9 (w.heap.size + 1 + 1) 9 (.slice (some ⟨G9, 0, none⟩) bi.length bi.length)) (Nat.le_refl _))
  clear qT qF TM A9 C2n C3n C5n C6n
  generalize V9.setCell ⟨w.heap.size + 1 + 1, 9, none⟩ (.slice (some ⟨G9, 0, none⟩) bi.length bi.length) = W10 at *
  have TH := TN
  clear TN
  have C2 := C2o
  clear C2o
  have C3 := C3o
  clear C3o
  have C5 := C5o
  clear C5o
  have C6 := C6o
  clear C6o
  have qS : W10.cell? ⟨w.heap.size, 10, none⟩ = some (.bool rs) := TH.out.S.cell 10
  have qT : W10.cell? ⟨w.heap.size + 1 + 1, 10, none⟩ = some (.bool false) := TH.out.T.cell 10
  have qF := TH.out.T.free 10
  go_upto_region 13 with fail
  have TN : Hid (TMs w (W10.setCell ⟨w.heap.size + 1 + 1, 10, none⟩ (.bool rs)) 26 31 [.int .i64 k, .int .i64 v, .slice a2 r.length c2, .slice a3 s.length c3, .string ⟨⟨ho⟩⟩, .slice a5 pr.length c5, .slice a6 ti.length c6, .int .i64 ag, .int .i64 ea, .slice a9 bi.length c9, .bool rs, .slice a11 ce.length c11, .slice a12 pf.length c12] [.int .i64 0, .int .i64 0, .slice none 0 0, .slice none 0 0, .string ⟨#[]⟩, .slice none 0 0, .slice none 0 0, .int .i64 0, .int .i64 0, .slice none 0 0, .bool false, .slice none 0 0, .slice none 0 0] [.int .i64 k, .int .i64 v, .slice (some ⟨G2, 0, none⟩) r.length r.length, .slice (some ⟨G3, 0, none⟩) s.length s.length, .string ⟨⟨ho⟩⟩, .slice (some ⟨G5, 0, none⟩) pr.length pr.length, .slice (some ⟨G6, 0, none⟩) ti.length ti.length, .int .i64 ag, .int .i64 ea, .slice (some ⟨G9, 0, none⟩) bi.length bi.length, .bool rs, .slice none 0 0, .slice none 0 0]) := TH.out.set 10 _
  have C2n := hide (C2.out.onl (Only.setCell W10 (w.heap.size + 1 + 1) 10 (.bool rs)) (Nat.le_refl _))
  have C3n := hide (C3.out.onl (Only.setCell W10 (w.heap.size + 1 + 1) 10 (.bool rs)) (Nat.le_refl _))
  have C5n := hide (C5.out.onl (Only.setCell W10 (w.heap.size + 1 + 1) 10 (.bool rs)) (Nat.le_refl _))
  have C6n := hide (C6.out.onl (Only.setCell W10 (w.heap.size + 1 + 1) 10 (.bool rs)) (Nat.le_refl _))
  have C9n := hide (C9.out.onl (Only.setCell W10 (w.heap.size + 1 + 1) 10 (.bool rs)) (Nat.le_refl _))
  clear qS qT qF TH C2 C3 C5 C6 C9
  generalize W10.setCell ⟨w.heap.size + 1 + 1, 10, none⟩ (.bool rs) = W11 at *
  have TH := TN
  clear TN
  have C2 := C2n
  clear C2n
  have C3 := C3n
  clear C3n
  have C5 := C5n
  clear C5n
  have C6 := C6n
  clear C6n
  have C9 := C9n
  clear C9n
  have qS : W11.cell? ⟨w.heap.size, 11, none⟩ = some (.slice a11 ce.length c11) := TH.out.S.cell 11
  have TB := hide (toBlobS_own W11 g11 a11 c11 ce ps (Hce.out.up TH.out.N) ceL CZ.out)
  go_wp2_with fail
  refine TB.out.mono ?_
  rintro e V11 ⟨⟨rfl, Gs, B, BQ⟩, m⟩
  have lt := TH.out.T.lt
  have TM := hide (TH.out.up m)
  have C2n := hide (C2.out.up m)
  have C3n := hide (C3.out.up m)
  have C5n := hide (C5.out.up m)
  have C6n := hide (C6.out.up m)
  have C9n := hide (C9.out.up m)
  have o11 : G9 < W11.heap.size := C9.out.1.lt
  clear TB qS TH m C2 C3 C5 C6 C9
  obtain ⟨G11, hG11⟩ : ∃ G, W11.heap.size = G := ⟨_, rfl⟩
  rw [hG11] at B lt BQ o11 ⊢
  clear hG11
  have O11 := hide o11
  clear o11
  have A11 : Hid (FO (w.heap.size + 1 + 1) V11 G11 ce Gs) := ⟨B, lt, BQ⟩
  clear BQ
  clear B lt
  have qT : V11.cell? ⟨w.heap.size + 1 + 1, 11, none⟩ = some (.slice none 0 0) := TM.out.T.cell 11
  have qF := TM.out.T.free 11
  go_upto_region 14 with fail
  have TN : Hid (TMs w (V11.setCell ⟨w.heap.size + 1 + 1, 11, none⟩ (.slice (some ⟨G11, 0, none⟩) ce.length ce.length)) 26 31 [.int .i64 k, .int .i64 v, .slice a2 r.length c2, .slice a3 s.length c3, .string ⟨⟨ho⟩⟩, .slice a5 pr.length c5, .slice a6 ti.length c6, .int .i64 ag, .int .i64 ea, .slice a9 bi.length c9, .bool rs, .slice a11 ce.length c11, .slice a12 pf.length c12] [.int .i64 0, .int .i64 0, .slice none 0 0, .slice none 0 0, .string ⟨#[]⟩, .slice none 0 0, .slice none 0 0, .int .i64 0, .int .i64 0, .slice none 0 0, .bool false, .slice none 0 0, .slice none 0 0] [.int .i64 k, .int .i64 v, .slice (some ⟨G2, 0, none⟩) r.length r.length, .slice (some ⟨G3, 0, none⟩) s.length s.length, .string ⟨⟨ho⟩⟩, .slice (some ⟨G5, 0, none⟩) pr.length pr.length, .slice (some ⟨G6, 0, none⟩) ti.length ti.length, .int .i64 ag, .int .i64 ea, .slice (some ⟨G9, 0, none⟩) bi.length bi.length, .bool rs, .slice (some ⟨G11, 0, none⟩) ce.length ce.length, .slice none 0 0]) := TM.out.set 11 _
  have C11 := hide (A11.out.onl (Only.setCell V11 (w.heap.size + 1 + 1) 11 (.slice (some ⟨G11, 0, none⟩) ce.length ce.length)) (Nat.le_refl _))
  have C2o := hide (C2n.out.onl (Only.setCell V11 (w.heap.size + 1 + 1) 11 (.slice (some ⟨G11, 0, none⟩) ce.length ce.length)) (Nat.le_refl _))
  have C3o := hide (C3n.out.onl (Only.setCell V11 (w.heap.size + 1 + 1) 11 (.slice (some ⟨G11, 0, none⟩) ce.length ce.length)) (Nat.le_refl _))
  have C5o := hide (C5n.out.onl (Only.setCell V11 (w.heap.size + 1 + 1) 11 (.slice (some ⟨G11, 0, none⟩) ce.length ce.length)) (Nat.le_refl _))
  have C6o := hide (C6n.out.onl (Only.setCell V11 (w.heap.size + 1 + 1) 11 (.slice (some ⟨G11, 0, none⟩) ce.length ce.length)) (Nat.le_refl _))
  have C9o := hide (C9n.out.onl (Only.setCell V11 (w.heap.size + 1 + 1) 11 (.slice (some ⟨G11, 0, none⟩) ce.length ce.length)) (Nat.le_refl _))
  clear qT qF TM A11 C2n C3n C5n C6n C9n
  generalize V11.setCell ⟨w.heap.size + 1 + 1, 11, none⟩ (.slice (some ⟨G11, 0, none⟩) ce.length ce.length) = W12 at *
  have TH := TN
  clear TN
  have C2 := C2o
  clear C2o
  have C3 := C3o
  clear C3o
  have C5 := C5o
  clear C5o
  have C6 := C6o
  clear C6o
  have C9 := C9o
  clear C9o
  have qS : W12.cell? ⟨w.heap.size, 12, none⟩ = some (.slice a12 pf.length c12) := TH.out.S.cell 12
  have TB := hide (toByteS_any W12 g12 a12 c12 pf (Hpf.out.up TH.out.N) pfL)
  go_wp2_with fail
  refine TB.out.mono ?_
  rintro e V12 ⟨rfl, B, m⟩
  have lt := TH.out.T.lt
  have TM := hide (TH.out.up m)
  have C2n := hide (C2.out.up m)
  have C3n := hide (C3.out.up m)
  have C5n := hide (C5.out.up m)
  have C6n := hide (C6.out.up m)
  have C9n := hide (C9.out.up m)
  have C11n := hide (C11.out.up m)
  have o12 : G11 < W12.heap.size := C11.out.2.2
  have oc : ∀ i, i < ce.length → Gs.getD i 0 < W12.heap.size := fun i hi => (C11.out.1.b i hi).lt
  clear TB qS TH m C2 C3 C5 C6 C9 C11
  obtain ⟨G12, hG12⟩ : ∃ G, W12.heap.size = G := ⟨_, rfl⟩
  rw [hG12] at B lt o12 oc ⊢
  clear hG12
  have O12 := hide o12
  have OC := hide oc
  clear o12 oc
  have A12 : Hid (FB (w.heap.size + 1 + 1) V12 G12 pf) := ⟨B, lt⟩
  clear B lt
  have qT : V12.cell? ⟨w.heap.size + 1 + 1, 12, none⟩ = some (.slice none 0 0) := TM.out.T.cell 12
  have qF := TM.out.T.free 12
  go_upto_region 15 with fail
  have TN : Hid (TMs w (V12.setCell ⟨w.heap.size + 1 + 1, 12, none⟩ (.slice (some ⟨G12, 0, none⟩) pf.length pf.length)) 26 31 [.int .i64 k, .int .i64 v, .slice a2 r.length c2, .slice a3 s.length c3, .string ⟨⟨ho⟩⟩, .slice a5 pr.length c5, .slice a6 ti.length c6, .int .i64 ag, .int .i64 ea, .slice a9 bi.length c9, .bool rs, .slice a11 ce.length c11, .slice a12 pf.length c12] [.int .i64 0, .int .i64 0, .slice none 0 0, .slice none 0 0, .string ⟨#[]⟩, .slice none 0 0, .slice none 0 0, .int .i64 0, .int .i64 0, .slice none 0 0, .bool false, .slice none 0 0, .slice none 0 0] [.int .i64 k, .int .i64 v, .slice (some ⟨G2, 0, none⟩) r.length r.length, .slice (some ⟨G3, 0, none⟩) s.length s.length, .string ⟨⟨ho⟩⟩, .slice (some ⟨G5, 0, none⟩) pr.length pr.length, .slice (some ⟨G6, 0, none⟩) ti.length ti.length, .int .i64 ag, .int .i64 ea, .slice (some ⟨G9, 0, none⟩) bi.length bi.length, .bool rs, .slice (some ⟨G11, 0, none⟩) ce.length ce.length, .slice (some ⟨G12, 0, none⟩) pf.length pf.length]) := TM.out.set 12 _
  have C12 := hide (A12.out.onl (Only.setCell V12 (w.heap.size + 1 + 1) 12 (.slice (some ⟨G12, 0, none⟩) pf.length pf.length)) (Nat.le_refl _))
  have C2o := hide (C2n.out.onl (Only.setCell V12 (w.heap.size + 1 + 1) 12 (.slice (some ⟨G12, 0, none⟩) pf.length pf.length)) (Nat.le_refl _))
  have C3o := hide (C3n.out.onl (Only.setCell V12 (w.heap.size + 1 + 1) 12 (.slice (some ⟨G12, 0, none⟩) pf.length pf.length)) (Nat.le_refl _))
  have C5o := hide (C5n.out.onl (Only.setCell V12 (w.heap.size + 1 + 1) 12 (.slice (some ⟨G12, 0, none⟩) pf.length pf.length)) (Nat.le_refl _))
  have C6o := hide (C6n.out.onl (Only.setCell V12 (w.heap.size + 1 + 1) 12 (.slice (some ⟨G12, 0, none⟩) pf.length pf.length)) (Nat.le_refl _))
  have C9o := hide (C9n.out.onl (Only.setCell V12 (w.heap.size + 1 + 1) 12 (.slice (some ⟨G12, 0, none⟩) pf.length pf.length)) (Nat.le_refl _))
  have C11o := hide (C11n.out.onl (Only.setCell V12 (w.heap.size + 1 + 1) 12 (.slice (some ⟨G12, 0, none⟩) pf.length pf.length)) (Nat.le_refl _))
  clear qT qF TM A12 C2n C3n C5n C6n C9n C11n
  generalize V12.setCell ⟨w.heap.size + 1 + 1, 12, none⟩ (.slice (some ⟨G12, 0, none⟩) pf.length pf.length) = W13 at *
  have TH := TN
  clear TN
  have C2 := C2o
  clear C2o
  have C3 := C3o
  clear C3o
  have C5 := C5o
  clear C5o
  have C6 := C6o
  clear C6o
  have C9 := C9o
  clear C9o
  have C11 := C11o
  clear C11o
  have RG := TH.out.T.rangeG
  have THR := TH.out.U.thereG
  have RR := World.rangeAt_setCells_same W13 (w.heap.size + 1) 0 [.int .i64 k, .int .i64 v, .slice (some ⟨G2, 0, none⟩) r.length r.length, .slice (some ⟨G3, 0, none⟩) s.length s.length, .string ⟨⟨ho⟩⟩, .slice (some ⟨G5, 0, none⟩) pr.length pr.length, .slice (some ⟨G6, 0, none⟩) ti.length ti.length, .int .i64 ag, .int .i64 ea, .slice (some ⟨G9, 0, none⟩) bi.length bi.length, .bool rs, .slice (some ⟨G11, 0, none⟩) ce.length ce.length, .slice (some ⟨G12, 0, none⟩) pf.length pf.length] THR
  have OQ := only_setG W13 (w.heap.size + 1) [.int .i64 k, .int .i64 v, .slice (some ⟨G2, 0, none⟩) r.length r.length, .slice (some ⟨G3, 0, none⟩) s.length s.length, .string ⟨⟨ho⟩⟩, .slice (some ⟨G5, 0, none⟩) pr.length pr.length, .slice (some ⟨G6, 0, none⟩) ti.length ti.length, .int .i64 ag, .int .i64 ea, .slice (some ⟨G9, 0, none⟩) bi.length bi.length, .bool rs, .slice (some ⟨G11, 0, none⟩) ce.length ce.length, .slice (some ⟨G12, 0, none⟩) pf.length pf.length] 0
  have N8 : Hid (Below w.heap.size w (W13.setCells (w.heap.size + 1) 0 [.int .i64 k, .int .i64 v, .slice (some ⟨G2, 0, none⟩) r.length r.length, .slice (some ⟨G3, 0, none⟩) s.length s.length, .string ⟨⟨ho⟩⟩, .slice (some ⟨G5, 0, none⟩) pr.length pr.length, .slice (some ⟨G6, 0, none⟩) ti.length ti.length, .int .i64 ag, .int .i64 ea, .slice (some ⟨G9, 0, none⟩) bi.length bi.length, .bool rs, .slice (some ⟨G11, 0, none⟩) ce.length ce.length, .slice (some ⟨G12, 0, none⟩) pf.length pf.length])) := TH.out.N.trans (OQ.below (by omega))
  have C2f := hide (C2.out.onl OQ (by omega))
  have C3f := hide (C3.out.onl OQ (by omega))
  have C5f := hide (C5.out.onl OQ (by omega))
  have C6f := hide (C6.out.onl OQ (by omega))
  have C9f := hide (C9.out.onl OQ (by omega))
  have C11f := hide (C11.out.onl OQ (by omega))
  have C12f := hide (C12.out.onl OQ (by omega))
  clear OQ TH C2 C3 C5 C6 C9 C11 C12
  have ON : ([.int .i64 k, .int .i64 v, .slice (some ⟨G2, 0, none⟩) r.length r.length, .slice (some ⟨G3, 0, none⟩) s.length s.length, .string ⟨⟨ho⟩⟩, .slice (some ⟨G5, 0, none⟩) pr.length pr.length, .slice (some ⟨G6, 0, none⟩) ti.length ti.length, .int .i64 ag, .int .i64 ea, .slice (some ⟨G9, 0, none⟩) bi.length bi.length, .bool rs, .slice (some ⟨G11, 0, none⟩) ce.length ce.length, .slice (some ⟨G12, 0, none⟩) pf.length pf.length] : List Value).toArray.all (·.oneCell') = true := all_oneCell_toArray fun v hv => by
    simp only [List.mem_cons, List.not_mem_nil, or_false] at hv
    rcases hv with rfl | rfl | rfl | rfl | rfl | rfl | rfl | rfl | rfl | rfl | rfl | rfl | rfl
    all_goals rfl
  go_wp2_with (first
    | (refine wpList_load_mid rfl 31 (.tmp 3) rfl (w.heap.size + 1 + 1) 0 rfl [.int .i64 k, .int .i64 v, .slice (some ⟨G2, 0, none⟩) r.length r.length, .slice (some ⟨G3, 0, none⟩) s.length s.length, .string ⟨⟨ho⟩⟩, .slice (some ⟨G5, 0, none⟩) pr.length pr.length, .slice (some ⟨G6, 0, none⟩) ti.length ti.length, .int .i64 ag, .int .i64 ea, .slice (some ⟨G9, 0, none⟩) bi.length bi.length, .bool rs, .slice (some ⟨G11, 0, none⟩) ce.length ce.length, .slice (some ⟨G12, 0, none⟩) pf.length pf.length] d13 RG hd13 hrow13 iM ?_)
    | (refine wpList_store_mid rfl 31 (.tmp 2) (.tmp 50) rfl (w.heap.size + 1) 0 #[.int .i64 k, .int .i64 v, .slice (some ⟨G2, 0, none⟩) r.length r.length, .slice (some ⟨G3, 0, none⟩) s.length s.length, .string ⟨⟨ho⟩⟩, .slice (some ⟨G5, 0, none⟩) pr.length pr.length, .slice (some ⟨G6, 0, none⟩) ti.length ti.length, .int .i64 ag, .int .i64 ea, .slice (some ⟨G9, 0, none⟩) bi.length bi.length, .bool rs, .slice (some ⟨G11, 0, none⟩) ce.length ce.length, .slice (some ⟨G12, 0, none⟩) pf.length pf.length] rfl rfl ?hth ?hin ?hon ?_))
  case hth => exact THR
  case hin => exact iM
  case hon => exact ON
  exact bodyPost_ret (v := .agg #[.int .i64 k, .int .i64 v, .slice (some ⟨G2, 0, none⟩) r.length r.length, .slice (some ⟨G3, 0, none⟩) s.length s.length, .string ⟨⟨ho⟩⟩, .slice (some ⟨G5, 0, none⟩) pr.length pr.length, .slice (some ⟨G6, 0, none⟩) ti.length ti.length, .int .i64 ag, .int .i64 ea, .slice (some ⟨G9, 0, none⟩) bi.length bi.length, .bool rs, .slice (some ⟨G11, 0, none⟩) ce.length ce.length, .slice (some ⟨G12, 0, none⟩) pf.length pf.length]) (results_cellG Tryz.results6 _ _ (w.heap.size + 1) _ d13 rfl RR hd13 hrow13 iM) rfl ⟨⟨G2, G3, G5, G6, G9, G11, G12, Gs, rfl, ⟨C2f.out.1, C3f.out.1, C5f.out.1, C6f.out.1, C9f.out.1, C11f.out.1, C12f.out.1, by have := O2.out; omega, O3.out, O5.out, O6.out, O9.out, O11.out, OC.out, O12.out⟩⟩, N8.out⟩
end Go.Proofs.YtdbgdiahddpgkaaGreat
