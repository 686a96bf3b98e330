import Derived.Test.YtdbgdiahddpgkaaGreatGE19
import Derived.Test.YtdbgdiahddpgkaaGreatGE10

/-
  The laws' helpers on messages: copied, held against each other, counted (written by gens/mhj.py).
-/
namespace Go.Proofs.YtdbgdiahddpgkaaGreat
open Go Go.RowKit

theorem Rd.onl {w w' : World} {g q : Nat} {a : Option Addr} {xs : List Int} (h : Rd w g a .u8 xs) (O : Only q w w') (hne : g ≠ q) : Rd w' g a .u8 xs := fun h0 => by
  obtain ⟨off, e, hc⟩ := h h0
  exact ⟨off, e, fun i hi => (World.cell?_of_block (a := ⟨g, off + i, none⟩) (O.block g hne)).trans (hc i hi)⟩
/-- Lists that lie behind block b. -/
def FB (b : Nat) (W : World) (g : Nat) (xs : List Int) : Prop := Blk W g .u8 xs ∧ b < g
def FT (b : Nat) (W : World) (g : Nat) (ls : List (List UInt8)) : Prop := BlkT W g ls ∧ b < g
def FL (b : Nat) (W : World) (g : Nat) (ce : List (List Int)) (ps : List Plb) : Prop := RdL W g (some ⟨g, 0, none⟩) ce ps ∧ b < g ∧ ∀ i, i < ce.length → b < (ps.getD i plb0).q
theorem FB.up {b : Nat} {W W' : World} {g : Nat} {xs : List Int} (h : FB b W g xs) (n : Below W.heap.size W W') : FB b W' g xs := ⟨h.1.up n, h.2⟩
theorem FT.up {b : Nat} {W W' : World} {g : Nat} {xs : List (List UInt8)} (h : FT b W g xs) (n : Below W.heap.size W W') : FT b W' g xs := ⟨h.1.up n, h.2⟩
theorem FL.up {b : Nat} {W W' : World} {g : Nat} {xs : List (List Int)} {ps : List Plb} (h : FL b W g xs ps) (n : Below W.heap.size W W') : FL b W' g xs ps := ⟨h.1.up n, h.2⟩
theorem FB.onl {b q : Nat} {W W' : World} {g : Nat} {xs : List Int} (h : FB b W g xs) (O : Only q W W') (hq : q ≤ b) : FB b W' g xs := ⟨h.1.of_block (O.block g (by have := h.2; omega)), h.2⟩
theorem FT.onl {b q : Nat} {W W' : World} {g : Nat} {xs : List (List UInt8)} (h : FT b W g xs) (O : Only q W W') (hq : q ≤ b) : FT b W' g xs := ⟨(O.block g (by have := h.2; omega)).trans h.1, h.2⟩
theorem FL.onl {b q : Nat} {W W' : World} {g : Nat} {xs : List (List Int)} {ps : List Plb} (h : FL b W g xs ps) (O : Only q W W') (hq : q ≤ b) : FL b W' g xs ps := by
  obtain ⟨h1, h2, h3⟩ := h
  refine ⟨⟨fun h0 => ?_, fun i hi => (h1.b i hi).onl O (by have := h3 i hi; omega)⟩, h2, h3⟩
  obtain ⟨off, e, hc⟩ := h1.r h0
  exact ⟨off, e, fun i hi => (World.cell?_of_block (a := ⟨g, off + i, none⟩) (O.block g (by omega))).trans (hc i hi)⟩
set_option maxHeartbeats 8000000 in
theorem toMessage_any (w : World) (p : MQ) (m : Msg) (h : HasM w p m) (i : IsM m) :
    Calls Tryz.prog 6 #[.agg (mgV p m)] w fun e w' => (∃ q, e = .returned (.agg (mgV q m)) ∧ HasM w' q m) ∧ Below w.heap.size w w' := by
  obtain ⟨k, v, r, s, ho, pr, ti, ag, ea, bi, rs, ce, pf⟩ := m
  obtain ⟨a2, c2, g2, a3, c3, g3, a5, c5, g5, a6, c6, g6, a9, c9, g9, a11, c11, g11, a12, c12, g12, ps⟩ := p
  obtain ⟨hr, hs, hpr, hti, hbi, hce, hpf, hprC⟩ := h
  obtain ⟨rB, sB, tiB, biB, pfB, ceB, rL, sL, prL, tiL, biL, ceL, pfL, ceZ, hoL, prZ⟩ := i
  simp only at hr hs hpr hti hbi hce hpf hprC rB sB tiB biB pfB ceB rL sL prL tiL biL ceL pfL ceZ hoL prZ
  clear rB sB tiB biB pfB ceB hoL prZ hprC
  have Hr := hide hr
  have Hs := hide hs
  have Hpr := hide hpr
  have Hti := hide hti
  have Hbi := hide hbi
  have Hce := hide hce
  have Hpf := hide hpf
  have CZ := hide ceZ
  clear hr hs hpr hti hbi hce hpf ceZ
  have T0 := TMs.new w 26 31 [.int .i64 k, .int .i64 v, .slice a2 r.length c2, .slice a3 s.length c3, .string ⟨⟨ho⟩⟩, .slice a5 pr.length c5, .slice a6 ti.length c6, .int .i64 ag, .int .i64 ea, .slice a9 bi.length c9, .bool rs, .slice a11 ce.length c11, .slice a12 pf.length c12] [.int .i64 0, .int .i64 0, .slice none 0 0, .slice none 0 0, .string ⟨#[]⟩, .slice none 0 0, .slice none 0 0, .int .i64 0, .int .i64 0, .slice none 0 0, .bool false, .slice none 0 0, .slice none 0 0]
  obtain ⟨d13, hd13, hrow13⟩ := rowM
  simp only [mgV]
  go_enter Tryz.func6, Tryz.ntmps6
  go_upto_region 2 with fail
  have T0 : TMs w (((w.alloc (.cells #[.int .i64 k, .int .i64 v, .slice a2 r.length c2, .slice a3 s.length c3, .string ⟨⟨ho⟩⟩, .slice a5 pr.length c5, .slice a6 ti.length c6, .int .i64 ag, .int .i64 ea, .slice a9 bi.length c9, .bool rs, .slice a11 ce.length c11, .slice a12 pf.length c12] 26)).alloc (.cells #[.int .i64 0, .int .i64 0, .slice none 0 0, .slice none 0 0, .string ⟨#[]⟩, .slice none 0 0, .slice none 0 0, .int .i64 0, .int .i64 0, .slice none 0 0, .bool false, .slice none 0 0, .slice none 0 0] 31)).alloc (.cells #[.int .i64 0, .int .i64 0, .slice none 0 0, .slice none 0 0, .string ⟨#[]⟩, .slice none 0 0, .slice none 0 0, .int .i64 0, .int .i64 0, .slice none 0 0, .bool false, .slice none 0 0, .slice none 0 0] 31)) 26 31 [.int .i64 k, .int .i64 v, .slice a2 r.length c2, .slice a3 s.length c3, .string ⟨⟨ho⟩⟩, .slice a5 pr.length c5, .slice a6 ti.length c6, .int .i64 ag, .int .i64 ea, .slice a9 bi.length c9, .bool rs, .slice a11 ce.length c11, .slice a12 pf.length c12] [.int .i64 0, .int .i64 0, .slice none 0 0, .slice none 0 0, .string ⟨#[]⟩, .slice none 0 0, .slice none 0 0, .int .i64 0, .int .i64 0, .slice none 0 0, .bool false, .slice none 0 0, .slice none 0 0] [.int .i64 0, .int .i64 0, .slice none 0 0, .slice none 0 0, .string ⟨#[]⟩, .slice none 0 0, .slice none 0 0, .int .i64 0, .int .i64 0, .slice none 0 0, .bool false, .slice none 0 0, .slice none 0 0] := T0
  generalize ((w.alloc (.cells #[.int .i64 k, .int .i64 v, .slice a2 r.length c2, .slice a3 s.length c3, .string ⟨⟨ho⟩⟩, .slice a5 pr.length c5, .slice a6 ti.length c6, .int .i64 ag, .int .i64 ea, .slice a9 bi.length c9, .bool rs, .slice a11 ce.length c11, .slice a12 pf.length c12] 26)).alloc (.cells #[.int .i64 0, .int .i64 0, .slice none 0 0, .slice none 0 0, .string ⟨#[]⟩, .slice none 0 0, .slice none 0 0, .int .i64 0, .int .i64 0, .slice none 0 0, .bool false, .slice none 0 0, .slice none 0 0] 31)).alloc (.cells #[.int .i64 0, .int .i64 0, .slice none 0 0, .slice none 0 0, .string ⟨#[]⟩, .slice none 0 0, .slice none 0 0, .int .i64 0, .int .i64 0, .slice none 0 0, .bool false, .slice none 0 0, .slice none 0 0] 31) = W0 at *
  have TH := hide T0
  clear T0
  have qS : W0.cell? ⟨w.heap.size, 0, none⟩ = some (.int .i64 k) := TH.out.S.cell 0
  have qT : W0.cell? ⟨w.heap.size + 1 + 1, 0, none⟩ = some (.int .i64 0) := TH.out.T.cell 0
  have qF := TH.out.T.free 0
  go_upto_region 3 with fail
  have TN : Hid (TMs w (W0.setCell ⟨w.heap.size + 1 + 1, 0, none⟩ (.int .i64 k)) 26 31 [.int .i64 k, .int .i64 v, .slice a2 r.length c2, .slice a3 s.length c3, .string ⟨⟨ho⟩⟩, .slice a5 pr.length c5, .slice a6 ti.length c6, .int .i64 ag, .int .i64 ea, .slice a9 bi.length c9, .bool rs, .slice a11 ce.length c11, .slice a12 pf.length c12] [.int .i64 0, .int .i64 0, .slice none 0 0, .slice none 0 0, .string ⟨#[]⟩, .slice none 0 0, .slice none 0 0, .int .i64 0, .int .i64 0, .slice none 0 0, .bool false, .slice none 0 0, .slice none 0 0] [.int .i64 k, .int .i64 0, .slice none 0 0, .slice none 0 0, .string ⟨#[]⟩, .slice none 0 0, .slice none 0 0, .int .i64 0, .int .i64 0, .slice none 0 0, .bool false, .slice none 0 0, .slice none 0 0]) := TH.out.set 0 _
  clear qS qT qF TH 
  generalize W0.setCell ⟨w.heap.size + 1 + 1, 0, none⟩ (.int .i64 k) = W1 at *
  have TH := TN
  clear TN
  have qS : W1.cell? ⟨w.heap.size, 1, none⟩ = some (.int .i64 v) := TH.out.S.cell 1
  have qT : W1.cell? ⟨w.heap.size + 1 + 1, 1, none⟩ = some (.int .i64 0) := TH.out.T.cell 1
  have qF := TH.out.T.free 1
  go_upto_region 4 with fail
  have TN : Hid (TMs w (W1.setCell ⟨w.heap.size + 1 + 1, 1, none⟩ (.int .i64 v)) 26 31 [.int .i64 k, .int .i64 v, .slice a2 r.length c2, .slice a3 s.length c3, .string ⟨⟨ho⟩⟩, .slice a5 pr.length c5, .slice a6 ti.length c6, .int .i64 ag, .int .i64 ea, .slice a9 bi.length c9, .bool rs, .slice a11 ce.length c11, .slice a12 pf.length c12] [.int .i64 0, .int .i64 0, .slice none 0 0, .slice none 0 0, .string ⟨#[]⟩, .slice none 0 0, .slice none 0 0, .int .i64 0, .int .i64 0, .slice none 0 0, .bool false, .slice none 0 0, .slice none 0 0] [.int .i64 k, .int .i64 v, .slice none 0 0, .slice none 0 0, .string ⟨#[]⟩, .slice none 0 0, .slice none 0 0, .int .i64 0, .int .i64 0, .slice none 0 0, .bool false, .slice none 0 0, .slice none 0 0]) := TH.out.set 1 _
  clear qS qT qF TH 
  generalize W1.setCell ⟨w.heap.size + 1 + 1, 1, none⟩ (.int .i64 v) = W2 at *
  have TH := TN
  clear TN
  have qS : W2.cell? ⟨w.heap.size, 2, none⟩ = some (.slice a2 r.length c2) := TH.out.S.cell 2
  have TB := hide (toByteS_any W2 g2 a2 c2 r (Hr.out.up TH.out.N) rL)
  go_wp2_with fail
  refine TB.out.mono ?_
  rintro e V2 ⟨rfl, B, m⟩
  have lt := TH.out.T.lt
  have TM := hide (TH.out.up m)
  clear TB qS TH m 
  obtain ⟨G2, hG2⟩ : ∃ G, W2.heap.size = G := ⟨_, rfl⟩
  rw [hG2] at B lt ⊢
  clear hG2
  have A2 : Hid (FB (w.heap.size + 1 + 1) V2 G2 r) := ⟨B, lt⟩
  clear B lt
  have qT : V2.cell? ⟨w.heap.size + 1 + 1, 2, none⟩ = some (.slice none 0 0) := TM.out.T.cell 2
  have qF := TM.out.T.free 2
  go_upto_region 5 with fail
  have TN : Hid (TMs w (V2.setCell ⟨w.heap.size + 1 + 1, 2, none⟩ (.slice (some ⟨G2, 0, none⟩) r.length r.length)) 26 31 [.int .i64 k, .int .i64 v, .slice a2 r.length c2, .slice a3 s.length c3, .string ⟨⟨ho⟩⟩, .slice a5 pr.length c5, .slice a6 ti.length c6, .int .i64 ag, .int .i64 ea, .slice a9 bi.length c9, .bool rs, .slice a11 ce.length c11, .slice a12 pf.length c12] [.int .i64 0, .int .i64 0, .slice none 0 0, .slice none 0 0, .string ⟨#[]⟩, .slice none 0 0, .slice none 0 0, .int .i64 0, .int .i64 0, .slice none 0 0, .bool false, .slice none 0 0, .slice none 0 0] [.int .i64 k, .int .i64 v, .slice (some ⟨G2, 0, none⟩) r.length r.length, .slice none 0 0, .string ⟨#[]⟩, .slice none 0 0, .slice none 0 0, .int .i64 0, .int .i64 0, .slice none 0 0, .bool false, .slice none 0 0, .slice none 0 0]) := TM.out.set 2 _
  have C2 := hide (A2.out.onl (Only.setCell V2 (w.heap.size + 1 + 1) 2 (.slice (some ⟨G2, 0, none⟩) r.length r.length)) (Nat.le_refl _))
  clear qT qF TM A2 
  generalize V2.setCell ⟨w.heap.size + 1 + 1, 2, none⟩ (.slice (some ⟨G2, 0, none⟩) r.length r.length) = W3 at *
  have TH := TN
  clear TN
  have qS : W3.cell? ⟨w.heap.size, 3, none⟩ = some (.slice a3 s.length c3) := TH.out.S.cell 3
  have TB := hide (toByteS_any W3 g3 a3 c3 s (Hs.out.up TH.out.N) sL)
  go_wp2_with fail
  refine TB.out.mono ?_
  rintro e V3 ⟨rfl, B, m⟩
  have lt := TH.out.T.lt
  have TM := hide (TH.out.up m)
  have C2n := hide (C2.out.up m)
  clear TB qS TH m C2
  obtain ⟨G3, hG3⟩ : ∃ G, W3.heap.size = G := ⟨_, rfl⟩
  rw [hG3] at B lt ⊢
  clear hG3
  have A3 : Hid (FB (w.heap.size + 1 + 1) V3 G3 s) := ⟨B, lt⟩
  clear B lt
  have qT : V3.cell? ⟨w.heap.size + 1 + 1, 3, none⟩ = some (.slice none 0 0) := TM.out.T.cell 3
  have qF := TM.out.T.free 3
  go_upto_region 6 with fail
  have TN : Hid (TMs w (V3.setCell ⟨w.heap.size + 1 + 1, 3, none⟩ (.slice (some ⟨G3, 0, none⟩) s.length s.length)) 26 31 [.int .i64 k, .int .i64 v, .slice a2 r.length c2, .slice a3 s.length c3, .string ⟨⟨ho⟩⟩, .slice a5 pr.length c5, .slice a6 ti.length c6, .int .i64 ag, .int .i64 ea, .slice a9 bi.length c9, .bool rs, .slice a11 ce.length c11, .slice a12 pf.length c12] [.int .i64 0, .int .i64 0, .slice none 0 0, .slice none 0 0, .string ⟨#[]⟩, .slice none 0 0, .slice none 0 0, .int .i64 0, .int .i64 0, .slice none 0 0, .bool false, .slice none 0 0, .slice none 0 0] [.int .i64 k, .int .i64 v, .slice (some ⟨G2, 0, none⟩) r.length r.length, .slice (some ⟨G3, 0, none⟩) s.length s.length, .string ⟨#[]⟩, .slice none 0 0, .slice none 0 0, .int .i64 0, .int .i64 0, .slice none 0 0, .bool false, .slice none 0 0, .slice none 0 0]) := TM.out.set 3 _
  have C3 := hide (A3.out.onl (Only.setCell V3 (w.heap.size + 1 + 1) 3 (.slice (some ⟨G3, 0, none⟩) s.length s.length)) (Nat.le_refl _))
  have C2o := hide (C2n.out.onl (Only.setCell V3 (w.heap.size + 1 + 1) 3 (.slice (some ⟨G3, 0, none⟩) s.length s.length)) (Nat.le_refl _))
  clear qT qF TM A3 C2n
  generalize V3.setCell ⟨w.heap.size + 1 + 1, 3, none⟩ (.slice (some ⟨G3, 0, none⟩) s.length s.length) = W4 at *
  have TH := TN
  clear TN
  have C2 := C2o
  clear C2o
  have qS : W4.cell? ⟨w.heap.size, 4, none⟩ = some (.string ⟨⟨ho⟩⟩) := TH.out.S.cell 4
  have qT : W4.cell? ⟨w.heap.size + 1 + 1, 4, none⟩ = some (.string ⟨#[]⟩) := TH.out.T.cell 4
  have qF := TH.out.T.free 4
  go_upto_region 7 with fail
  have TN : Hid (TMs w (W4.setCell ⟨w.heap.size + 1 + 1, 4, none⟩ (.string ⟨⟨ho⟩⟩)) 26 31 [.int .i64 k, .int .i64 v, .slice a2 r.length c2, .slice a3 s.length c3, .string ⟨⟨ho⟩⟩, .slice a5 pr.length c5, .slice a6 ti.length c6, .int .i64 ag, .int .i64 ea, .slice a9 bi.length c9, .bool rs, .slice a11 ce.length c11, .slice a12 pf.length c12] [.int .i64 0, .int .i64 0, .slice none 0 0, .slice none 0 0, .string ⟨#[]⟩, .slice none 0 0, .slice none 0 0, .int .i64 0, .int .i64 0, .slice none 0 0, .bool false, .slice none 0 0, .slice none 0 0] [.int .i64 k, .int .i64 v, .slice (some ⟨G2, 0, none⟩) r.length r.length, .slice (some ⟨G3, 0, none⟩) s.length s.length, .string ⟨⟨ho⟩⟩, .slice none 0 0, .slice none 0 0, .int .i64 0, .int .i64 0, .slice none 0 0, .bool false, .slice none 0 0, .slice none 0 0]) := TH.out.set 4 _
  have C2n := hide (C2.out.onl (Only.setCell W4 (w.heap.size + 1 + 1) 4 (.string ⟨⟨ho⟩⟩)) (Nat.le_refl _))
  have C3n := hide (C3.out.onl (Only.setCell W4 (w.heap.size + 1 + 1) 4 (.string ⟨⟨ho⟩⟩)) (Nat.le_refl _))
  clear qS qT qF TH C2 C3
  generalize W4.setCell ⟨w.heap.size + 1 + 1, 4, none⟩ (.string ⟨⟨ho⟩⟩) = W5 at *
  have TH := TN
  clear TN
  have C2 := C2n
  clear C2n
  have C3 := C3n
  clear C3n
  have qS : W5.cell? ⟨w.heap.size, 5, none⟩ = some (.slice a5 pr.length c5) := TH.out.S.cell 5
  have TB := hide (toStringS_any W5 g5 a5 c5 pr (Hpr.out.up TH.out.N) prL)
  go_wp2_with fail
  refine TB.out.mono ?_
  rintro e V5 ⟨rfl, B, m⟩
  have lt := TH.out.T.lt
  have TM := hide (TH.out.up m)
  have C2n := hide (C2.out.up m)
  have C3n := hide (C3.out.up m)
  clear TB qS TH m C2 C3
  obtain ⟨G5, hG5⟩ : ∃ G, W5.heap.size = G := ⟨_, rfl⟩
  rw [hG5] at B lt ⊢
  clear hG5
  have A5 : Hid (FT (w.heap.size + 1 + 1) V5 G5 pr) := ⟨B, lt⟩
  clear B lt
  have qT : V5.cell? ⟨w.heap.size + 1 + 1, 5, none⟩ = some (.slice none 0 0) := TM.out.T.cell 5
  have qF := TM.out.T.free 5
  go_upto_region 8 with fail
  have TN : Hid (TMs w (V5.setCell ⟨w.heap.size + 1 + 1, 5, none⟩ (.slice (some ⟨G5, 0, none⟩) pr.length pr.length)) 26 31 [.int .i64 k, .int .i64 v, .slice a2 r.length c2, .slice a3 s.length c3, .string ⟨⟨ho⟩⟩, .slice a5 pr.length c5, .slice a6 ti.length c6, .int .i64 ag, .int .i64 ea, .slice a9 bi.length c9, .bool rs, .slice a11 ce.length c11, .slice a12 pf.length c12] [.int .i64 0, .int .i64 0, .slice none 0 0, .slice none 0 0, .string ⟨#[]⟩, .slice none 0 0, .slice none 0 0, .int .i64 0, .int .i64 0, .slice none 0 0, .bool false, .slice none 0 0, .slice none 0 0] [.int .i64 k, .int .i64 v, .slice (some ⟨G2, 0, none⟩) r.length r.length, .slice (some ⟨G3, 0, none⟩) s.length s.length, .string ⟨⟨ho⟩⟩, .slice (some ⟨G5, 0, none⟩) pr.length pr.length, .slice none 0 0, .int .i64 0, .int .i64 0, .slice none 0 0, .bool false, .slice none 0 0, .slice none 0 0]) := TM.out.set 5 _
  have C5 := hide (A5.out.onl (Only.setCell V5 (w.heap.size + 1 + 1) 5 (.slice (some ⟨G5, 0, none⟩) pr.length pr.length)) (Nat.le_refl _))
  have C2o := hide (C2n.out.onl (Only.setCell V5 (w.heap.size + 1 + 1) 5 (.slice (some ⟨G5, 0, none⟩) pr.length pr.length)) (Nat.le_refl _))
  have C3o := hide (C3n.out.onl (Only.setCell V5 (w.heap.size + 1 + 1) 5 (.slice (some ⟨G5, 0, none⟩) pr.length pr.length)) (Nat.le_refl _))
  clear qT qF TM A5 C2n C3n
  generalize V5.setCell ⟨w.heap.size + 1 + 1, 5, none⟩ (.slice (some ⟨G5, 0, none⟩) pr.length pr.length) = W6 at *
  have TH := TN
  clear TN
  have C2 := C2o
  clear C2o
  have C3 := C3o
  clear C3o
  have qS : W6.cell? ⟨w.heap.size, 6, none⟩ = some (.slice a6 ti.length c6) := TH.out.S.cell 6
  have TB := hide (toByteS_any W6 g6 a6 c6 ti (Hti.out.up TH.out.N) tiL)
  go_wp2_with fail
  refine TB.out.mono ?_
  rintro e V6 ⟨rfl, B, m⟩
  have lt := TH.out.T.lt
  have TM := hide (TH.out.up m)
  have C2n := hide (C2.out.up m)
  have C3n := hide (C3.out.up m)
  have C5n := hide (C5.out.up m)
  clear TB qS TH m C2 C3 C5
  obtain ⟨G6, hG6⟩ : ∃ G, W6.heap.size = G := ⟨_, rfl⟩
  rw [hG6] at B lt ⊢
  clear hG6
  have A6 : Hid (FB (w.heap.size + 1 + 1) V6 G6 ti) := ⟨B, lt⟩
  clear B lt
  have qT : V6.cell? ⟨w.heap.size + 1 + 1, 6, none⟩ = some (.slice none 0 0) := TM.out.T.cell 6
  have qF := TM.out.T.free 6
  go_upto_region 9 with fail
  have TN : Hid (TMs w (V6.setCell ⟨w.heap.size + 1 + 1, 6, none⟩ (.slice (some ⟨G6, 0, none⟩) ti.length ti.length)) 26 31 [.int .i64 k, .int .i64 v, .slice a2 r.length c2, .slice a3 s.length c3, .string ⟨⟨ho⟩⟩, .slice a5 pr.length c5, .slice a6 ti.length c6, .int .i64 ag, .int .i64 ea, .slice a9 bi.length c9, .bool rs, .slice a11 ce.length c11, .slice a12 pf.length c12] [.int .i64 0, .int .i64 0, .slice none 0 0, .slice none 0 0, .string ⟨#[]⟩, .slice none 0 0, .slice none 0 0, .int .i64 0, .int .i64 0, .slice none 0 0, .bool false, .slice none 0 0, .slice none 0 0] [.int .i64 k, .int .i64 v, .slice (some ⟨G2, 0, none⟩) r.length r.length, .slice (some ⟨G3, 0, none⟩) s.length s.length, .string ⟨⟨ho⟩⟩, .slice (some ⟨G5, 0, none⟩) pr.length pr.length, .slice (some ⟨G6, 0, none⟩) ti.length ti.length, .int .i64 0, .int .i64 0, .slice none 0 0, .bool false, .slice none 0 0, .slice none 0 0]) := TM.out.set 6 _
  have C6 := hide (A6.out.onl (Only.setCell V6 (w.heap.size + 1 + 1) 6 (.slice (some ⟨G6, 0, none⟩) ti.length ti.length)) (Nat.le_refl _))
  have C2o := hide (C2n.out.onl (Only.setCell V6 (w.heap.size + 1 + 1) 6 (.slice (some ⟨G6, 0, none⟩) ti.length ti.length)) (Nat.le_refl _))
  have C3o := hide (C3n.out.onl (Only.setCell V6 (w.heap.size + 1 + 1) 6 (.slice (some ⟨G6, 0, none⟩) ti.length ti.length)) (Nat.le_refl _))
  have C5o := hide (C5n.out.onl (Only.setCell V6 (w.heap.size + 1 + 1) 6 (.slice (some ⟨G6, 0, none⟩) ti.length ti.length)) (Nat.le_refl _))
  clear qT qF TM A6 C2n C3n C5n
  generalize V6.setCell ⟨w.heap.size + 1 + 1, 6, none⟩ (.slice (some ⟨G6, 0, none⟩) ti.length ti.length) = W7 at *
  have TH := TN
  clear TN
  have C2 := C2o
  clear C2o
  have C3 := C3o
  clear C3o
  have C5 := C5o
  clear C5o
  have qS : W7.cell? ⟨w.heap.size, 7, none⟩ = some (.int .i64 ag) := TH.out.S.cell 7
  have qT : W7.cell? ⟨w.heap.size + 1 + 1, 7, none⟩ = some (.int .i64 0) := TH.out.T.cell 7
  have qF := TH.out.T.free 7
  go_upto_region 10 with fail
  have TN : Hid (TMs w (W7.setCell ⟨w.heap.size + 1 + 1, 7, none⟩ (.int .i64 ag)) 26 31 [.int .i64 k, .int .i64 v, .slice a2 r.length c2, .slice a3 s.length c3, .string ⟨⟨ho⟩⟩, .slice a5 pr.length c5, .slice a6 ti.length c6, .int .i64 ag, .int .i64 ea, .slice a9 bi.length c9, .bool rs, .slice a11 ce.length c11, .slice a12 pf.length c12] [.int .i64 0, .int .i64 0, .slice none 0 0, .slice none 0 0, .string ⟨#[]⟩, .slice none 0 0, .slice none 0 0, .int .i64 0, .int .i64 0, .slice none 0 0, .bool false, .slice none 0 0, .slice none 0 0] [.int .i64 k, .int .i64 v, .slice (some ⟨G2, 0, none⟩) r.length r.length, .slice (some ⟨G3, 0, none⟩) s.length s.length, .string ⟨⟨ho⟩⟩, .slice (some ⟨G5, 0, none⟩) pr.length pr.length, .slice (some ⟨G6, 0, none⟩) ti.length ti.length, .int .i64 ag, .int .i64 0, .slice none 0 0, .bool false, .slice none 0 0, .slice none 0 0]) := TH.out.set 7 _
  have C2n := hide (C2.out.onl (Only.setCell W7 (w.heap.size + 1 + 1) 7 (.int .i64 ag)) (Nat.le_refl _))
  have C3n := hide (C3.out.onl (Only.setCell W7 (w.heap.size + 1 + 1) 7 (.int .i64 ag)) (Nat.le_refl _))
  have C5n := hide (C5.out.onl (Only.setCell W7 (w.heap.size + 1 + 1) 7 (.int .i64 ag)) (Nat.le_refl _))
  have C6n := hide (C6.out.onl (Only.setCell W7 (w.heap.size + 1 + 1) 7 (.int .i64 ag)) (Nat.le_refl _))
  clear qS qT qF TH C2 C3 C5 C6
  generalize W7.setCell ⟨w.heap.size + 1 + 1, 7, none⟩ (.int .i64 ag) = W8 at *
  have TH := TN
  clear TN
  have C2 := C2n
  clear C2n
  have C3 := C3n
  clear C3n
  have C5 := C5n
  clear C5n
  have C6 := C6n
  clear C6n
  have qS : W8.cell? ⟨w.heap.size, 8, none⟩ = some (.int .i64 ea) := TH.out.S.cell 8
  have qT : W8.cell? ⟨w.heap.size + 1 + 1, 8, none⟩ = some (.int .i64 0) := TH.out.T.cell 8
  have qF := TH.out.T.free 8
  go_upto_region 11 with fail
  have TN : Hid (TMs w (W8.setCell ⟨w.heap.size + 1 + 1, 8, none⟩ (.int .i64 ea)) 26 31 [.int .i64 k, .int .i64 v, .slice a2 r.length c2, .slice a3 s.length c3, .string ⟨⟨ho⟩⟩, .slice a5 pr.length c5, .slice a6 ti.length c6, .int .i64 ag, .int .i64 ea, .slice a9 bi.length c9, .bool rs, .slice a11 ce.length c11, .slice a12 pf.length c12] [.int .i64 0, .int .i64 0, .slice none 0 0, .slice none 0 0, .string ⟨#[]⟩, .slice none 0 0, .slice none 0 0, .int .i64 0, .int .i64 0, .slice none 0 0, .bool false, .slice none 0 0, .slice none 0 0] [.int .i64 k, .int .i64 v, .slice (some ⟨G2, 0, none⟩) r.length r.length, .slice (some ⟨G3, 0, none⟩) s.length s.length, .string ⟨⟨ho⟩⟩, .slice (some ⟨G5, 0, none⟩) pr.length pr.length, .slice (some ⟨G6, 0, none⟩) ti.length ti.length, .int .i64 ag, .int .i64 ea, .slice none 0 0, .bool false, .slice none 0 0, .slice none 0 0]) := TH.out.set 8 _
  have C2n := hide (C2.out.onl (Only.setCell W8 (w.heap.size + 1 + 1) 8 (.int .i64 ea)) (Nat.le_refl _))
  have C3n := hide (C3.out.onl (Only.setCell W8 (w.heap.size + 1 + 1) 8 (.int .i64 ea)) (Nat.le_refl _))
  have C5n := hide (C5.out.onl (Only.setCell W8 (w.heap.size + 1 + 1) 8 (.int .i64 ea)) (Nat.le_refl _))
  have C6n := hide (C6.out.onl (Only.setCell W8 (w.heap.size + 1 + 1) 8 (.int .i64 ea)) (Nat.le_refl _))
  clear qS qT qF TH C2 C3 C5 C6
  generalize W8.setCell ⟨w.heap.size + 1 + 1, 8, none⟩ (.int .i64 ea) = W9 at *
  have TH := TN
  clear TN
  have C2 := C2n
  clear C2n
  have C3 := C3n
  clear C3n
  have C5 := C5n
  clear C5n
  have C6 := C6n
  clear C6n
  have qS : W9.cell? ⟨w.heap.size, 9, none⟩ = some (.slice a9 bi.length c9) := TH.out.S.cell 9
  have TB := hide (toByteS_any W9 g9 a9 c9 bi (Hbi.out.up TH.out.N) biL)
  go_wp2_with fail
  refine TB.out.mono ?_
  rintro e V9 ⟨rfl, B, m⟩
  have lt := TH.out.T.lt
  have TM := hide (TH.out.up m)
  have C2n := hide (C2.out.up m)
  have C3n := hide (C3.out.up m)
  have C5n := hide (C5.out.up m)
  have C6n := hide (C6.out.up m)
  clear TB qS TH m C2 C3 C5 C6
  obtain ⟨G9, hG9⟩ : ∃ G, W9.heap.size = G := ⟨_, rfl⟩
  rw [hG9] at B lt ⊢
  clear hG9
  have A9 : Hid (FB (w.heap.size + 1 + 1) V9 G9 bi) := ⟨B, lt⟩
  clear B lt
  have qT : V9.cell? ⟨w.heap.size + 1 + 1, 9, none⟩ = some (.slice none 0 0) := TM.out.T.cell 9
  have qF := TM.out.T.free 9
  go_upto_region 12 with fail
  have TN : Hid (TMs w (V9.setCell ⟨w.heap.size + 1 + 1, 9, none⟩ (.slice (some ⟨G9, 0, none⟩) bi.length bi.length)) 26 31 [.int .i64 k, .int .i64 v, .slice a2 r.length c2, .slice a3 s.length c3, .string ⟨⟨ho⟩⟩, .slice a5 pr.length c5, .slice a6 ti.length c6, .int .i64 ag, .int .i64 ea, .slice a9 bi.length c9, .bool rs, .slice a11 ce.length c11, .slice a12 pf.length c12] [.int .i64 0, .int .i64 0, .slice none 0 0, .slice none 0 0, .string ⟨#[]⟩, .slice none 0 0, .slice none 0 0, .int .i64 0, .int .i64 0, .slice none 0 0, .bool false, .slice none 0 0, .slice none 0 0] [.int .i64 k, .int .i64 v, .slice (some ⟨G2, 0, none⟩) r.length r.length, .slice (some ⟨G3, 0, none⟩) s.length s.length, .string ⟨⟨ho⟩⟩, .slice (some ⟨G5, 0, none⟩) pr.length pr.length, .slice (some ⟨G6, 0, none⟩) ti.length ti.length, .int .i64 ag, .int .i64 ea, .slice (some ⟨G9, 0, none⟩) bi.length bi.length, .bool false, .slice none 0 0, .slice none 0 0]) := TM.out.set 9 _
  have C9 := hide (A9.out.onl (Only.setCell V9 (w.heap.size + 1 + 1) 9 (.slice (some ⟨G9, 0, none⟩) bi.length bi.length)) (Nat.le_refl _))
  have C2o := hide (C2n.out.onl (Only.setCell V9 (w.heap.size + 1 + 1) 9 (.slice (some ⟨G9, 0, none⟩) bi.length bi.length)) (Nat.le_refl _))
  have C3o := hide (C3n.out.onl (Only.setCell V9 (w.heap.size + 1 + 1) 9 (.slice (some ⟨G9, 0, none⟩) bi.length bi.length)) (Nat.le_refl _))
  have C5o := hide (C5n.out.onl (Only.setCell V9 (w.heap.size + 1 + 1) 9 (.slice (some ⟨G9, 0, none⟩) bi.length bi.length)) (Nat.le_refl _))
  have C6o := hide (C6n.out.onl (Only.setCell V9 (w.heap.size + 1 + 1) 9 (.slice (some ⟨G9, 0, none⟩) bi.length bi.length)) (Nat.le_refl _))
  clear qT qF TM A9 C2n C3n C5n C6n
  generalize V9.setCell ⟨w.heap.size + 1 + 1, 9, none⟩ (.slice (some ⟨G9, 0, none⟩) bi.length bi.length) = W10 at *
  have TH := TN
  clear TN
  have C2 := C2o
  clear C2o
  have C3 := C3o
  clear C3o
  have C5 := C5o
  clear C5o
  have C6 := C6o
  clear C6o
  have qS : W10.cell? ⟨w.heap.size, 10, none⟩ = some (.bool rs) := TH.out.S.cell 10
  have qT : W10.cell? ⟨w.heap.size + 1 + 1, 10, none⟩ = some (.bool false) := TH.out.T.cell 10
  have qF := TH.out.T.free 10
  go_upto_region 13 with fail
  have TN : Hid (TMs w (W10.setCell ⟨w.heap.size + 1 + 1, 10, none⟩ (.bool rs)) 26 31 [.int .i64 k, .int .i64 v, .slice a2 r.length c2, .slice a3 s.length c3, .string ⟨⟨ho⟩⟩, .slice a5 pr.length c5, .slice a6 ti.length c6, .int .i64 ag, .int .i64 ea, .slice a9 bi.length c9, .bool rs, .slice a11 ce.length c11, .slice a12 pf.length c12] [.int .i64 0, .int .i64 0, .slice none 0 0, .slice none 0 0, .string ⟨#[]⟩, .slice none 0 0, .slice none 0 0, .int .i64 0, .int .i64 0, .slice none 0 0, .bool false, .slice none 0 0, .slice none 0 0] [.int .i64 k, .int .i64 v, .slice (some ⟨G2, 0, none⟩) r.length r.length, .slice (some ⟨G3, 0, none⟩) s.length s.length, .string ⟨⟨ho⟩⟩, .slice (some ⟨G5, 0, none⟩) pr.length pr.length, .slice (some ⟨G6, 0, none⟩) ti.length ti.length, .int .i64 ag, .int .i64 ea, .slice (some ⟨G9, 0, none⟩) bi.length bi.length, .bool rs, .slice none 0 0, .slice none 0 0]) := TH.out.set 10 _
  have C2n := hide (C2.out.onl (Only.setCell W10 (w.heap.size + 1 + 1) 10 (.bool rs)) (Nat.le_refl _))
  have C3n := hide (C3.out.onl (Only.setCell W10 (w.heap.size + 1 + 1) 10 (.bool rs)) (Nat.le_refl _))
  have C5n := hide (C5.out.onl (Only.setCell W10 (w.heap.size + 1 + 1) 10 (.bool rs)) (Nat.le_refl _))
  have C6n := hide (C6.out.onl (Only.setCell W10 (w.heap.size + 1 + 1) 10 (.bool rs)) (Nat.le_refl _))
  have C9n := hide (C9.out.onl (Only.setCell W10 (w.heap.size + 1 + 1) 10 (.bool rs)) (Nat.le_refl _))
  clear qS qT qF TH C2 C3 C5 C6 C9
  generalize W10.setCell ⟨w.heap.size + 1 + 1, 10, none⟩ (.bool rs) = W11 at *
  have TH := TN
  clear TN
  have C2 := C2n
  clear C2n
  have C3 := C3n
  clear C3n
  have C5 := C5n
  clear C5n
  have C6 := C6n
  clear C6n
  have C9 := C9n
  clear C9n
  have qS : W11.cell? ⟨w.heap.size, 11, none⟩ = some (.slice a11 ce.length c11) := TH.out.S.cell 11
  have TB := hide (toBlobS_any W11 g11 a11 c11 ce ps (Hce.out.up TH.out.N) ceL CZ.out)
  go_wp2_with fail
  refine TB.out.mono ?_
  rintro e V11 ⟨⟨rfl, pn, B, BQ⟩, m⟩
  have lt := TH.out.T.lt
  have TM := hide (TH.out.up m)
  have C2n := hide (C2.out.up m)
  have C3n := hide (C3.out.up m)
  have C5n := hide (C5.out.up m)
  have C6n := hide (C6.out.up m)
  have C9n := hide (C9.out.up m)
  clear TB qS TH m C2 C3 C5 C6 C9
  obtain ⟨G11, hG11⟩ : ∃ G, W11.heap.size = G := ⟨_, rfl⟩
  rw [hG11] at B lt BQ ⊢
  clear hG11
  have A11 : Hid (FL (w.heap.size + 1 + 1) V11 G11 ce pn) := ⟨B, lt, fun i hi => by have := BQ i hi; omega⟩
  clear BQ
  clear B lt
  have qT : V11.cell? ⟨w.heap.size + 1 + 1, 11, none⟩ = some (.slice none 0 0) := TM.out.T.cell 11
  have qF := TM.out.T.free 11
  go_upto_region 14 with fail
  have TN : Hid (TMs w (V11.setCell ⟨w.heap.size + 1 + 1, 11, none⟩ (.slice (some ⟨G11, 0, none⟩) ce.length ce.length)) 26 31 [.int .i64 k, .int .i64 v, .slice a2 r.length c2, .slice a3 s.length c3, .string ⟨⟨ho⟩⟩, .slice a5 pr.length c5, .slice a6 ti.length c6, .int .i64 ag, .int .i64 ea, .slice a9 bi.length c9, .bool rs, .slice a11 ce.length c11, .slice a12 pf.length c12] [.int .i64 0, .int .i64 0, .slice none 0 0, .slice none 0 0, .string ⟨#[]⟩, .slice none 0 0, .slice none 0 0, .int .i64 0, .int .i64 0, .slice none 0 0, .bool false, .slice none 0 0, .slice none 0 0] [.int .i64 k, .int .i64 v, .slice (some ⟨G2, 0, none⟩) r.length r.length, .slice (some ⟨G3, 0, none⟩) s.length s.length, .string ⟨⟨ho⟩⟩, .slice (some ⟨G5, 0, none⟩) pr.length pr.length, .slice (some ⟨G6, 0, none⟩) ti.length ti.length, .int .i64 ag, .int .i64 ea, .slice (some ⟨G9, 0, none⟩) bi.length bi.length, .bool rs, .slice (some ⟨G11, 0, none⟩) ce.length ce.length, .slice none 0 0]) := TM.out.set 11 _
  have C11 := hide (A11.out.onl (Only.setCell V11 (w.heap.size + 1 + 1) 11 (.slice (some ⟨G11, 0, none⟩) ce.length ce.length)) (Nat.le_refl _))
  have C2o := hide (C2n.out.onl (Only.setCell V11 (w.heap.size + 1 + 1) 11 (.slice (some ⟨G11, 0, none⟩) ce.length ce.length)) (Nat.le_refl _))
  have C3o := hide (C3n.out.onl (Only.setCell V11 (w.heap.size + 1 + 1) 11 (.slice (some ⟨G11, 0, none⟩) ce.length ce.length)) (Nat.le_refl _))
  have C5o := hide (C5n.out.onl (Only.setCell V11 (w.heap.size + 1 + 1) 11 (.slice (some ⟨G11, 0, none⟩) ce.length ce.length)) (Nat.le_refl _))
  have C6o := hide (C6n.out.onl (Only.setCell V11 (w.heap.size + 1 + 1) 11 (.slice (some ⟨G11, 0, none⟩) ce.length ce.length)) (Nat.le_refl _))
  have C9o := hide (C9n.out.onl (Only.setCell V11 (w.heap.size + 1 + 1) 11 (.slice (some ⟨G11, 0, none⟩) ce.length ce.length)) (Nat.le_refl _))
  clear qT qF TM A11 C2n C3n C5n C6n C9n
  generalize V11.setCell ⟨w.heap.size + 1 + 1, 11, none⟩ (.slice (some ⟨G11, 0, none⟩) ce.length ce.length) = W12 at *
  have TH := TN
  clear TN
  have C2 := C2o
  clear C2o
  have C3 := C3o
  clear C3o
  have C5 := C5o
  clear C5o
  have C6 := C6o
  clear C6o
  have C9 := C9o
  clear C9o
  have qS : W12.cell? ⟨w.heap.size, 12, none⟩ = some (.slice a12 pf.length c12) := TH.out.S.cell 12
  have TB := hide (toByteS_any W12 g12 a12 c12 pf (Hpf.out.up TH.out.N) pfL)
  go_wp2_with fail
  refine TB.out.mono ?_
  rintro e V12 ⟨rfl, B, m⟩
  have lt := TH.out.T.lt
  have TM := hide (TH.out.up m)
  have C2n := hide (C2.out.up m)
  have C3n := hide (C3.out.up m)
  have C5n := hide (C5.out.up m)
  have C6n := hide (C6.out.up m)
  have C9n := hide (C9.out.up m)
  have C11n := hide (C11.out.up m)
  clear TB qS TH m C2 C3 C5 C6 C9 C11
  obtain ⟨G12, hG12⟩ : ∃ G, W12.heap.size = G := ⟨_, rfl⟩
  rw [hG12] at B lt ⊢
  clear hG12
  have A12 : Hid (FB (w.heap.size + 1 + 1) V12 G12 pf) := ⟨B, lt⟩
  clear B lt
  have qT : V12.cell? ⟨w.heap.size + 1 + 1, 12, none⟩ = some (.slice none 0 0) := TM.out.T.cell 12
  have qF := TM.out.T.free 12
  go_upto_region 15 with fail
  have TN : Hid (TMs w (V12.setCell ⟨w.heap.size + 1 + 1, 12, none⟩ (.slice (some ⟨G12, 0, none⟩) pf.length pf.length)) 26 31 [.int .i64 k, .int .i64 v, .slice a2 r.length c2, .slice a3 s.length c3, .string ⟨⟨ho⟩⟩, .slice a5 pr.length c5, .slice a6 ti.length c6, .int .i64 ag, .int .i64 ea, .slice a9 bi.length c9, .bool rs, .slice a11 ce.length c11, .slice a12 pf.length c12] [.int .i64 0, .int .i64 0, .slice none 0 0, .slice none 0 0, .string ⟨#[]⟩, .slice none 0 0, .slice none 0 0, .int .i64 0, .int .i64 0, .slice none 0 0, .bool false, .slice none 0 0, .slice none 0 0] [.int .i64 k, .int .i64 v, .slice (some ⟨G2, 0, none⟩) r.length r.length, .slice (some ⟨G3, 0, none⟩) s.length s.length, .string ⟨⟨ho⟩⟩, .slice (some ⟨G5, 0, none⟩) pr.length pr.length, .slice (some ⟨G6, 0, none⟩) ti.length ti.length, .int .i64 ag, .int .i64 ea, .slice (some ⟨G9, 0, none⟩) bi.length bi.length, .bool rs, .slice (some ⟨G11, 0, none⟩) ce.length ce.length, .slice (some ⟨G12, 0, none⟩) pf.length pf.length]) := TM.out.set 12 _
  have C12 := hide (A12.out.onl (Only.setCell V12 (w.heap.size + 1 + 1) 12 (.slice (some ⟨G12, 0, none⟩) pf.length pf.length)) (Nat.le_refl _))
  have C2o := hide (C2n.out.onl (Only.setCell V12 (w.heap.size + 1 + 1) 12 (.slice (some ⟨G12, 0, none⟩) pf.length pf.length)) (Nat.le_refl _))
  have C3o := hide (C3n.out.onl (Only.setCell V12 (w.heap.size + 1 + 1) 12 (.slice (some ⟨G12, 0, none⟩) pf.length pf.length)) (Nat.le_refl _))
  have C5o := hide (C5n.out.onl (Only.setCell V12 (w.heap.size + 1 + 1) 12 (.slice (some ⟨G12, 0, none⟩) pf.length pf.length)) (Nat.le_refl _))
  have C6o := hide (C6n.out.onl (Only.setCell V12 (w.heap.size + 1 + 1) 12 (.slice (some ⟨G12, 0, none⟩) pf.length pf.length)) (Nat.le_refl _))
  have C9o := hide (C9n.out.onl (Only.setCell V12 (w.heap.size + 1 + 1) 12 (.slice (some ⟨G12, 0, none⟩) pf.length pf.length)) (Nat.le_refl _))
  have C11o := hide (C11n.out.onl (Only.setCell V12 (w.heap.size + 1 + 1) 12 (.slice (some ⟨G12, 0, none⟩) pf.length pf.length)) (Nat.le_refl _))
  clear qT qF TM A12 C2n C3n C5n C6n C9n C11n
  generalize V12.setCell ⟨w.heap.size + 1 + 1, 12, none⟩ (.slice (some ⟨G12, 0, none⟩) pf.length pf.length) = W13 at *
  have TH := TN
  clear TN
  have C2 := C2o
  clear C2o
  have C3 := C3o
  clear C3o
  have C5 := C5o
  clear C5o
  have C6 := C6o
  clear C6o
  have C9 := C9o
  clear C9o
  have C11 := C11o
  clear C11o
  have RG := TH.out.T.rangeG
  have THR := TH.out.U.thereG
  have RR := World.rangeAt_setCells_same W13 (w.heap.size + 1) 0 [.int .i64 k, .int .i64 v, .slice (some ⟨G2, 0, none⟩) r.length r.length, .slice (some ⟨G3, 0, none⟩) s.length s.length, .string ⟨⟨ho⟩⟩, .slice (some ⟨G5, 0, none⟩) pr.length pr.length, .slice (some ⟨G6, 0, none⟩) ti.length ti.length, .int .i64 ag, .int .i64 ea, .slice (some ⟨G9, 0, none⟩) bi.length bi.length, .bool rs, .slice (some ⟨G11, 0, none⟩) ce.length ce.length, .slice (some ⟨G12, 0, none⟩) pf.length pf.length] THR
  have OQ := only_setG W13 (w.heap.size + 1) [.int .i64 k, .int .i64 v, .slice (some ⟨G2, 0, none⟩) r.length r.length, .slice (some ⟨G3, 0, none⟩) s.length s.length, .string ⟨⟨ho⟩⟩, .slice (some ⟨G5, 0, none⟩) pr.length pr.length, .slice (some ⟨G6, 0, none⟩) ti.length ti.length, .int .i64 ag, .int .i64 ea, .slice (some ⟨G9, 0, none⟩) bi.length bi.length, .bool rs, .slice (some ⟨G11, 0, none⟩) ce.length ce.length, .slice (some ⟨G12, 0, none⟩) pf.length pf.length] 0
  have N8 : Hid (Below w.heap.size w (W13.setCells (w.heap.size + 1) 0 [.int .i64 k, .int .i64 v, .slice (some ⟨G2, 0, none⟩) r.length r.length, .slice (some ⟨G3, 0, none⟩) s.length s.length, .string ⟨⟨ho⟩⟩, .slice (some ⟨G5, 0, none⟩) pr.length pr.length, .slice (some ⟨G6, 0, none⟩) ti.length ti.length, .int .i64 ag, .int .i64 ea, .slice (some ⟨G9, 0, none⟩) bi.length bi.length, .bool rs, .slice (some ⟨G11, 0, none⟩) ce.length ce.length, .slice (some ⟨G12, 0, none⟩) pf.length pf.length])) := TH.out.N.trans (OQ.below (by omega))
  have C2f := hide (C2.out.onl OQ (by omega))
  have C3f := hide (C3.out.onl OQ (by omega))
  have C5f := hide (C5.out.onl OQ (by omega))
  have C6f := hide (C6.out.onl OQ (by omega))
  have C9f := hide (C9.out.onl OQ (by omega))
  have C11f := hide (C11.out.onl OQ (by omega))
  have C12f := hide (C12.out.onl OQ (by omega))
  clear OQ TH C2 C3 C5 C6 C9 C11 C12
  have ON : ([.int .i64 k, .int .i64 v, .slice (some ⟨G2, 0, none⟩) r.length r.length, .slice (some ⟨G3, 0, none⟩) s.length s.length, .string ⟨⟨ho⟩⟩, .slice (some ⟨G5, 0, none⟩) pr.length pr.length, .slice (some ⟨G6, 0, none⟩) ti.length ti.length, .int .i64 ag, .int .i64 ea, .slice (some ⟨G9, 0, none⟩) bi.length bi.length, .bool rs, .slice (some ⟨G11, 0, none⟩) ce.length ce.length, .slice (some ⟨G12, 0, none⟩) pf.length pf.length] : List Value).toArray.all (·.oneCell') = true := all_oneCell_toArray fun v hv => by
    simp only [List.mem_cons, List.not_mem_nil, or_false] at hv
    rcases hv with rfl | rfl | rfl | rfl | rfl | rfl | rfl | rfl | rfl | rfl | rfl | rfl | rfl
    all_goals rfl
  go_wp2_with (first
    | (refine wpList_load_mid rfl 31 (.tmp 3) rfl (w.heap.size + 1 + 1) 0 rfl [.int .i64 k, .int .i64 v, .slice (some ⟨G2, 0, none⟩) r.length r.length, .slice (some ⟨G3, 0, none⟩) s.length s.length, .string ⟨⟨ho⟩⟩, .slice (some ⟨G5, 0, none⟩) pr.length pr.length, .slice (some ⟨G6, 0, none⟩) ti.length ti.length, .int .i64 ag, .int .i64 ea, .slice (some ⟨G9, 0, none⟩) bi.length bi.length, .bool rs, .slice (some ⟨G11, 0, none⟩) ce.length ce.length, .slice (some ⟨G12, 0, none⟩) pf.length pf.length] d13 RG hd13 hrow13 iM ?_)
    | (refine wpList_store_mid rfl 31 (.tmp 2) (.tmp 50) rfl (w.heap.size + 1) 0 #[.int .i64 k, .int .i64 v, .slice (some ⟨G2, 0, none⟩) r.length r.length, .slice (some ⟨G3, 0, none⟩) s.length s.length, .string ⟨⟨ho⟩⟩, .slice (some ⟨G5, 0, none⟩) pr.length pr.length, .slice (some ⟨G6, 0, none⟩) ti.length ti.length, .int .i64 ag, .int .i64 ea, .slice (some ⟨G9, 0, none⟩) bi.length bi.length, .bool rs, .slice (some ⟨G11, 0, none⟩) ce.length ce.length, .slice (some ⟨G12, 0, none⟩) pf.length pf.length] rfl rfl ?hth ?hin ?hon ?_))
  case hth => exact THR
  case hin => exact iM
  case hon => exact ON
  exact bodyPost_ret (v := .agg #[.int .i64 k, .int .i64 v, .slice (some ⟨G2, 0, none⟩) r.length r.length, .slice (some ⟨G3, 0, none⟩) s.length s.length, .string ⟨⟨ho⟩⟩, .slice (some ⟨G5, 0, none⟩) pr.length pr.length, .slice (some ⟨G6, 0, none⟩) ti.length ti.length, .int .i64 ag, .int .i64 ea, .slice (some ⟨G9, 0, none⟩) bi.length bi.length, .bool rs, .slice (some ⟨G11, 0, none⟩) ce.length ce.length, .slice (some ⟨G12, 0, none⟩) pf.length pf.length]) (results_cellG Tryz.results6 _ _ (w.heap.size + 1) _ d13 rfl RR hd13 hrow13 iM) rfl ⟨⟨⟨some ⟨G2, 0, none⟩, r.length, G2, some ⟨G3, 0, none⟩, s.length, G3, some ⟨G5, 0, none⟩, pr.length, G5, some ⟨G6, 0, none⟩, ti.length, G6, some ⟨G9, 0, none⟩, bi.length, G9, some ⟨G11, 0, none⟩, ce.length, G11, some ⟨G12, 0, none⟩, pf.length, G12, pn⟩, rfl, ⟨C2f.out.1.own0.rd, C3f.out.1.own0.rd, C5f.out.1.rd, C6f.out.1.own0.rd, C9f.out.1.own0.rd, C11f.out.1, C12f.out.1.own0.rd, Nat.le_refl _⟩⟩, N8.out⟩
set_option maxHeartbeats 8000000 in
theorem eqMessage_same (w : World) (p q : MQ) (m : Msg) (hp : HasM w p m) (hq : HasM w q m) (i : IsM m) :
    Calls Tryz.prog 9 #[.agg (mgV p m), .agg (mgV q m)] w fun e w' => e = .returned (.bool true) ∧ Below w.heap.size w w' := by
  obtain ⟨k, v, r, s, ho, pr, ti, ag, ea, bi, rs, ce, pf⟩ := m
  obtain ⟨a2, c2, g2, a3, c3, g3, a5, c5, g5, a6, c6, g6, a9, c9, g9, a11, c11, g11, a12, c12, g12, ps⟩ := p
  obtain ⟨e2, d2, f2, e3, d3, f3, e5, d5, f5, e6, d6, f6, e9, d9, f9, e11, d11, f11, e12, d12, f12, qs⟩ := q
  obtain ⟨rB, sB, tiB, biB, pfB, ceB, rL, sL, prL, tiL, biL, ceL, pfL, ceZ, hoL, prZ⟩ := i
  simp only at rL sL prL tiL biL ceL pfL ceZ
  clear rB sB tiB biB pfB ceB hoL prZ
  have CZ := hide ceZ
  clear ceZ
  have TA0 := RwC.new w [.int .i64 k, .int .i64 v, .slice a2 r.length c2, .slice a3 s.length c3, .string ⟨⟨ho⟩⟩, .slice a5 pr.length c5, .slice a6 ti.length c6, .int .i64 ag, .int .i64 ea, .slice a9 bi.length c9, .bool rs, .slice a11 ce.length c11, .slice a12 pf.length c12] 31
  have n1 : Below w.heap.size w (w.alloc (.cells #[.int .i64 k, .int .i64 v, .slice a2 r.length c2, .slice a3 s.length c3, .string ⟨⟨ho⟩⟩, .slice a5 pr.length c5, .slice a6 ti.length c6, .int .i64 ag, .int .i64 ea, .slice a9 bi.length c9, .bool rs, .slice a11 ce.length c11, .slice a12 pf.length c12] 31)) := (Below.refl _ _).alloc (Nat.le_refl _) _
  have z1 : (w.alloc (.cells #[.int .i64 k, .int .i64 v, .slice a2 r.length c2, .slice a3 s.length c3, .string ⟨⟨ho⟩⟩, .slice a5 pr.length c5, .slice a6 ti.length c6, .int .i64 ag, .int .i64 ea, .slice a9 bi.length c9, .bool rs, .slice a11 ce.length c11, .slice a12 pf.length c12] 31)).heap.size = w.heap.size + 1 := by simp
  have TB0 := RwC.new (w.alloc (.cells #[.int .i64 k, .int .i64 v, .slice a2 r.length c2, .slice a3 s.length c3, .string ⟨⟨ho⟩⟩, .slice a5 pr.length c5, .slice a6 ti.length c6, .int .i64 ag, .int .i64 ea, .slice a9 bi.length c9, .bool rs, .slice a11 ce.length c11, .slice a12 pf.length c12] 31)) [.int .i64 k, .int .i64 v, .slice e2 r.length d2, .slice e3 s.length d3, .string ⟨⟨ho⟩⟩, .slice e5 pr.length d5, .slice e6 ti.length d6, .int .i64 ag, .int .i64 ea, .slice e9 bi.length d9, .bool rs, .slice e11 ce.length d11, .slice e12 pf.length d12] 31
  have n2 : Below (w.alloc (.cells #[.int .i64 k, .int .i64 v, .slice a2 r.length c2, .slice a3 s.length c3, .string ⟨⟨ho⟩⟩, .slice a5 pr.length c5, .slice a6 ti.length c6, .int .i64 ag, .int .i64 ea, .slice a9 bi.length c9, .bool rs, .slice a11 ce.length c11, .slice a12 pf.length c12] 31)).heap.size (w.alloc (.cells #[.int .i64 k, .int .i64 v, .slice a2 r.length c2, .slice a3 s.length c3, .string ⟨⟨ho⟩⟩, .slice a5 pr.length c5, .slice a6 ti.length c6, .int .i64 ag, .int .i64 ea, .slice a9 bi.length c9, .bool rs, .slice a11 ce.length c11, .slice a12 pf.length c12] 31)) ((w.alloc (.cells #[.int .i64 k, .int .i64 v, .slice a2 r.length c2, .slice a3 s.length c3, .string ⟨⟨ho⟩⟩, .slice a5 pr.length c5, .slice a6 ti.length c6, .int .i64 ag, .int .i64 ea, .slice a9 bi.length c9, .bool rs, .slice a11 ce.length c11, .slice a12 pf.length c12] 31)).alloc (.cells #[.int .i64 k, .int .i64 v, .slice e2 r.length d2, .slice e3 s.length d3, .string ⟨⟨ho⟩⟩, .slice e5 pr.length d5, .slice e6 ti.length d6, .int .i64 ag, .int .i64 ea, .slice e9 bi.length d9, .bool rs, .slice e11 ce.length d11, .slice e12 pf.length d12] 31)) := (Below.refl _ _).alloc (Nat.le_refl _) _
  rw [z1] at TB0
  have TA : Hid (RwC ((w.alloc (.cells #[.int .i64 k, .int .i64 v, .slice a2 r.length c2, .slice a3 s.length c3, .string ⟨⟨ho⟩⟩, .slice a5 pr.length c5, .slice a6 ti.length c6, .int .i64 ag, .int .i64 ea, .slice a9 bi.length c9, .bool rs, .slice a11 ce.length c11, .slice a12 pf.length c12] 31)).alloc (.cells #[.int .i64 k, .int .i64 v, .slice e2 r.length d2, .slice e3 s.length d3, .string ⟨⟨ho⟩⟩, .slice e5 pr.length d5, .slice e6 ti.length d6, .int .i64 ag, .int .i64 ea, .slice e9 bi.length d9, .bool rs, .slice e11 ce.length d11, .slice e12 pf.length d12] 31)) w.heap.size [.int .i64 k, .int .i64 v, .slice a2 r.length c2, .slice a3 s.length c3, .string ⟨⟨ho⟩⟩, .slice a5 pr.length c5, .slice a6 ti.length c6, .int .i64 ag, .int .i64 ea, .slice a9 bi.length c9, .bool rs, .slice a11 ce.length c11, .slice a12 pf.length c12] 31) := RwC.up TA0 n2
  have TB : Hid (RwC ((w.alloc (.cells #[.int .i64 k, .int .i64 v, .slice a2 r.length c2, .slice a3 s.length c3, .string ⟨⟨ho⟩⟩, .slice a5 pr.length c5, .slice a6 ti.length c6, .int .i64 ag, .int .i64 ea, .slice a9 bi.length c9, .bool rs, .slice a11 ce.length c11, .slice a12 pf.length c12] 31)).alloc (.cells #[.int .i64 k, .int .i64 v, .slice e2 r.length d2, .slice e3 s.length d3, .string ⟨⟨ho⟩⟩, .slice e5 pr.length d5, .slice e6 ti.length d6, .int .i64 ag, .int .i64 ea, .slice e9 bi.length d9, .bool rs, .slice e11 ce.length d11, .slice e12 pf.length d12] 31)) (w.heap.size + 1) [.int .i64 k, .int .i64 v, .slice e2 r.length d2, .slice e3 s.length d3, .string ⟨⟨ho⟩⟩, .slice e5 pr.length d5, .slice e6 ti.length d6, .int .i64 ag, .int .i64 ea, .slice e9 bi.length d9, .bool rs, .slice e11 ce.length d11, .slice e12 pf.length d12] 31) := TB0
  have N := hide (nxt n1 n2)
  have HP := hide (hp.up N.out)
  have HQ := hide (hq.up N.out)
  clear TA0 n1 z1 TB0 n2 hp hq
  simp only [mgV]
  have ek : (k != k) = false := by simp
  have ev : (v != v) = false := by simp
  have eg : (ag != ag) = false := by simp
  have ee : (ea != ea) = false := by simp
  have eh : (ho == ho) = true := by simp
  go_enter Tryz.func9, Tryz.ntmps9
  go_upto_region 1 with fail
  generalize ((w.alloc (.cells #[.int .i64 k, .int .i64 v, .slice a2 r.length c2, .slice a3 s.length c3, .string ⟨⟨ho⟩⟩, .slice a5 pr.length c5, .slice a6 ti.length c6, .int .i64 ag, .int .i64 ea, .slice a9 bi.length c9, .bool rs, .slice a11 ce.length c11, .slice a12 pf.length c12] 31)).alloc (.cells #[.int .i64 k, .int .i64 v, .slice e2 r.length d2, .slice e3 s.length d3, .string ⟨⟨ho⟩⟩, .slice e5 pr.length d5, .slice e6 ti.length d6, .int .i64 ag, .int .i64 ea, .slice e9 bi.length d9, .bool rs, .slice e11 ce.length d11, .slice e12 pf.length d12] 31)) = W0 at *
  have ka0 : W0.cell? ⟨w.heap.size, 0, none⟩ = some (.int .i64 k) := TA.out.cell 0
  have kb0 : W0.cell? ⟨w.heap.size + 1, 0, none⟩ = some (.int .i64 k) := TB.out.cell 0
  have ka1 : W0.cell? ⟨w.heap.size, 1, none⟩ = some (.int .i64 v) := TA.out.cell 1
  have kb1 : W0.cell? ⟨w.heap.size + 1, 1, none⟩ = some (.int .i64 v) := TB.out.cell 1
  have ka2 : W0.cell? ⟨w.heap.size, 2, none⟩ = some (.slice a2 r.length c2) := TA.out.cell 2
  have kb2 : W0.cell? ⟨w.heap.size + 1, 2, none⟩ = some (.slice e2 r.length d2) := TB.out.cell 2
  have EQ := hide (eqByteS_same W0 g2 f2 a2 e2 c2 d2 r HP.out.r HQ.out.r rL)
  go_wp2_with fail
  refine EQ.out.mono ?_
  rintro e W1 ⟨rfl, m⟩
  have TAn := hide (TA.out.up m)
  have TBn := hide (TB.out.up m)
  have Nn := hide (nxt N.out m)
  have HPn := hide (HP.out.up m)
  have HQn := hide (HQ.out.up m)
  clear EQ m TA TB N HP HQ ka0 kb0 ka1 kb1 ka2 kb2
  have TA := TAn
  have TB := TBn
  have N := Nn
  have HP := HPn
  have HQ := HQn
  clear TAn TBn Nn HPn HQn
  have ka3 : W1.cell? ⟨w.heap.size, 3, none⟩ = some (.slice a3 s.length c3) := TA.out.cell 3
  have kb3 : W1.cell? ⟨w.heap.size + 1, 3, none⟩ = some (.slice e3 s.length d3) := TB.out.cell 3
  have EQ := hide (eqByteS_same W1 g3 f3 a3 e3 c3 d3 s HP.out.s HQ.out.s sL)
  go_wp2_with fail
  refine EQ.out.mono ?_
  rintro e W2 ⟨rfl, m⟩
  have TAn := hide (TA.out.up m)
  have TBn := hide (TB.out.up m)
  have Nn := hide (nxt N.out m)
  have HPn := hide (HP.out.up m)
  have HQn := hide (HQ.out.up m)
  clear EQ m TA TB N HP HQ ka3 kb3
  have TA := TAn
  have TB := TBn
  have N := Nn
  have HP := HPn
  have HQ := HQn
  clear TAn TBn Nn HPn HQn
  have ka4 : W2.cell? ⟨w.heap.size, 4, none⟩ = some (.string ⟨⟨ho⟩⟩) := TA.out.cell 4
  have kb4 : W2.cell? ⟨w.heap.size + 1, 4, none⟩ = some (.string ⟨⟨ho⟩⟩) := TB.out.cell 4
  have ka5 : W2.cell? ⟨w.heap.size, 5, none⟩ = some (.slice a5 pr.length c5) := TA.out.cell 5
  have kb5 : W2.cell? ⟨w.heap.size + 1, 5, none⟩ = some (.slice e5 pr.length d5) := TB.out.cell 5
  have EQ := hide (eqStringS_same W2 g5 f5 a5 e5 c5 d5 pr HP.out.pr HQ.out.pr prL)
  go_wp2_with fail
  refine EQ.out.mono ?_
  rintro e W3 ⟨rfl, m⟩
  have TAn := hide (TA.out.up m)
  have TBn := hide (TB.out.up m)
  have Nn := hide (nxt N.out m)
  have HPn := hide (HP.out.up m)
  have HQn := hide (HQ.out.up m)
  clear EQ m TA TB N HP HQ ka4 kb4 ka5 kb5
  have TA := TAn
  have TB := TBn
  have N := Nn
  have HP := HPn
  have HQ := HQn
  clear TAn TBn Nn HPn HQn
  have ka6 : W3.cell? ⟨w.heap.size, 6, none⟩ = some (.slice a6 ti.length c6) := TA.out.cell 6
  have kb6 : W3.cell? ⟨w.heap.size + 1, 6, none⟩ = some (.slice e6 ti.length d6) := TB.out.cell 6
  have EQ := hide (eqByteS_same W3 g6 f6 a6 e6 c6 d6 ti HP.out.ti HQ.out.ti tiL)
  go_wp2_with fail
  refine EQ.out.mono ?_
  rintro e W4 ⟨rfl, m⟩
  have TAn := hide (TA.out.up m)
  have TBn := hide (TB.out.up m)
  have Nn := hide (nxt N.out m)
  have HPn := hide (HP.out.up m)
  have HQn := hide (HQ.out.up m)
  clear EQ m TA TB N HP HQ ka6 kb6
  have TA := TAn
  have TB := TBn
  have N := Nn
  have HP := HPn
  have HQ := HQn
  clear TAn TBn Nn HPn HQn
  have ka7 : W4.cell? ⟨w.heap.size, 7, none⟩ = some (.int .i64 ag) := TA.out.cell 7
  have kb7 : W4.cell? ⟨w.heap.size + 1, 7, none⟩ = some (.int .i64 ag) := TB.out.cell 7
  have ka8 : W4.cell? ⟨w.heap.size, 8, none⟩ = some (.int .i64 ea) := TA.out.cell 8
  have kb8 : W4.cell? ⟨w.heap.size + 1, 8, none⟩ = some (.int .i64 ea) := TB.out.cell 8
  have ka9 : W4.cell? ⟨w.heap.size, 9, none⟩ = some (.slice a9 bi.length c9) := TA.out.cell 9
  have kb9 : W4.cell? ⟨w.heap.size + 1, 9, none⟩ = some (.slice e9 bi.length d9) := TB.out.cell 9
  have EQ := hide (eqByteS_same W4 g9 f9 a9 e9 c9 d9 bi HP.out.bi HQ.out.bi biL)
  go_wp2_with fail
  refine EQ.out.mono ?_
  rintro e W5 ⟨rfl, m⟩
  have TAn := hide (TA.out.up m)
  have TBn := hide (TB.out.up m)
  have Nn := hide (nxt N.out m)
  have HPn := hide (HP.out.up m)
  have HQn := hide (HQ.out.up m)
  clear EQ m TA TB N HP HQ ka7 kb7 ka8 kb8 ka9 kb9
  have TA := TAn
  have TB := TBn
  have N := Nn
  have HP := HPn
  have HQ := HQn
  clear TAn TBn Nn HPn HQn
  have ka10 : W5.cell? ⟨w.heap.size, 10, none⟩ = some (.bool rs) := TA.out.cell 10
  have kb10 : W5.cell? ⟨w.heap.size + 1, 10, none⟩ = some (.bool rs) := TB.out.cell 10
  have ka11 : W5.cell? ⟨w.heap.size, 11, none⟩ = some (.slice a11 ce.length c11) := TA.out.cell 11
  have kb11 : W5.cell? ⟨w.heap.size + 1, 11, none⟩ = some (.slice e11 ce.length d11) := TB.out.cell 11
  cases rs
  all_goals
    have EQ := hide (eqBlobS_same W5 g11 f11 a11 e11 c11 d11 ce ps qs HP.out.ce HQ.out.ce ceL CZ.out)
    go_wp2_with fail
    refine EQ.out.mono ?_
    rintro e W6 ⟨rfl, m⟩
    have TAn := hide (TA.out.up m)
    have TBn := hide (TB.out.up m)
    have Nn := hide (nxt N.out m)
    have HPn := hide (HP.out.up m)
    have HQn := hide (HQ.out.up m)
    clear EQ m TA TB N HP HQ ka10 kb10 ka11 kb11
    have TA := TAn
    have TB := TBn
    have N := Nn
    have HP := HPn
    have HQ := HQn
    clear TAn TBn Nn HPn HQn
    have ka12 : W6.cell? ⟨w.heap.size, 12, none⟩ = some (.slice a12 pf.length c12) := TA.out.cell 12
    have kb12 : W6.cell? ⟨w.heap.size + 1, 12, none⟩ = some (.slice e12 pf.length d12) := TB.out.cell 12
    have EQ := hide (eqByteS_same W6 g12 f12 a12 e12 c12 d12 pf HP.out.pf HQ.out.pf pfL)
    go_wp2_with fail
    refine EQ.out.mono ?_
    rintro e W7 ⟨rfl, m⟩
    have TAn := hide (TA.out.up m)
    have TBn := hide (TB.out.up m)
    have Nn := hide (nxt N.out m)
    have HPn := hide (HP.out.up m)
    have HQn := hide (HQ.out.up m)
    clear EQ m TA TB N HP HQ ka12 kb12
    have TA := TAn
    have TB := TBn
    have N := Nn
    have HP := HPn
    have HQ := HQn
    clear TAn TBn Nn HPn HQn
    go_wp2
    go_ret
    exact ⟨rfl, N.out⟩
set_option maxHeartbeats 8000000 in
theorem szMessage_r (w : World) (p : MQ) (m : Msg) (h : HasM w p m) (l2 : m.r.length ≤ 9223372036854775807) (l3 : m.s.length ≤ 9223372036854775807) (l4 : m.ho.length ≤ 9223372036854775807) (l5 : m.pr.length ≤ 9223372036854775807) (lz : ∀ l ∈ m.pr, l.length ≤ 9223372036854775807) (l6 : m.ti.length ≤ 9223372036854775807) (l9 : m.bi.length ≤ 9223372036854775807) (l11 : m.ce.length ≤ 9223372036854775807) (lc : ∀ i, i < m.ce.length → (m.ce.getD i []).length ≤ 9223372036854775807) (l12 : m.pf.length ≤ 9223372036854775807) :
    Calls Tryz.prog 4 #[.agg (mgV p m), .int .i64 1048576] w fun e w' => (∃ x, e = .returned (.int .i64 x) ∧ (0 ≤ x → m.r.length + m.s.length + m.ho.length + (m.pr.length + sumT m.pr) + m.ti.length + m.bi.length + (m.ce.length + sumB m.ce) + m.pf.length ≤ 1048576) ∧ (x < 0 → x = -1)) ∧ Below w.heap.size w w' := by
  obtain ⟨k, v, r, s, ho, pr, ti, ag, ea, bi, rs, ce, pf⟩ := m
  obtain ⟨a2, c2, g2, a3, c3, g3, a5, c5, g5, a6, c6, g6, a9, c9, g9, a11, c11, g11, a12, c12, g12, ps⟩ := p
  have TA : Hid (RwC (w.alloc (.cells #[.int .i64 k, .int .i64 v, .slice a2 r.length c2, .slice a3 s.length c3, .string ⟨⟨ho⟩⟩, .slice a5 pr.length c5, .slice a6 ti.length c6, .int .i64 ag, .int .i64 ea, .slice a9 bi.length c9, .bool rs, .slice a11 ce.length c11, .slice a12 pf.length c12] 26)) w.heap.size [.int .i64 k, .int .i64 v, .slice a2 r.length c2, .slice a3 s.length c3, .string ⟨⟨ho⟩⟩, .slice a5 pr.length c5, .slice a6 ti.length c6, .int .i64 ag, .int .i64 ea, .slice a9 bi.length c9, .bool rs, .slice a11 ce.length c11, .slice a12 pf.length c12] 26) := RwC.new w [.int .i64 k, .int .i64 v, .slice a2 r.length c2, .slice a3 s.length c3, .string ⟨⟨ho⟩⟩, .slice a5 pr.length c5, .slice a6 ti.length c6, .int .i64 ag, .int .i64 ea, .slice a9 bi.length c9, .bool rs, .slice a11 ce.length c11, .slice a12 pf.length c12] 26
  have N : Hid (Below w.heap.size w (w.alloc (.cells #[.int .i64 k, .int .i64 v, .slice a2 r.length c2, .slice a3 s.length c3, .string ⟨⟨ho⟩⟩, .slice a5 pr.length c5, .slice a6 ti.length c6, .int .i64 ag, .int .i64 ea, .slice a9 bi.length c9, .bool rs, .slice a11 ce.length c11, .slice a12 pf.length c12] 26))) := (Below.refl _ _).alloc (Nat.le_refl _) _
  have HP := hide (h.up N.out)
  have LZ := hide lz
  have LC := hide lc
  simp only at l2 l3 l4 l5 l6 l9 l11 l12 LZ LC
  clear h lz lc
  simp only [mgV]
  have sx := tx_size ho
  go_enter Tryz.func4, Tryz.ntmps4
  go_upto_region 1 with fail
  generalize (w.alloc (.cells #[.int .i64 k, .int .i64 v, .slice a2 r.length c2, .slice a3 s.length c3, .string ⟨⟨ho⟩⟩, .slice a5 pr.length c5, .slice a6 ti.length c6, .int .i64 ag, .int .i64 ea, .slice a9 bi.length c9, .bool rs, .slice a11 ce.length c11, .slice a12 pf.length c12] 26)) = W0 at *
  have ka : W0.cell? ⟨w.heap.size, 2, none⟩ = some (.slice a2 r.length c2) := TA.out.cell 2
  have SZ := hide (szByteS_r W0 a2 c2 r.length 1048576 l2 (by decide) (by decide))
  go_wp2_with fail
  refine SZ.out.mono ?_
  rintro e V ⟨⟨y, rfl, hy⟩, hw⟩
  have hw := hw.symm
  subst hw
  clear SZ ka
  rcases hy with ⟨hy, rfl⟩ | ⟨hy, hz⟩
  · skip
    go_wp2
    go_ret
    exact ⟨⟨-1, rfl, fun h => absurd h (by decide), fun _ => rfl⟩, N.out⟩
  obtain ⟨x1, e1⟩ : ∃ x, x = y := ⟨_, rfl⟩
  subst e1
  have p1 : 0 ≤ x1 := by omega
  have b1 : x1 ≤ 1048576 := by omega
  have t1 : decide (x1 < 0) = false := decide_eq_false (by omega)
  have Z1 := hide hz
  clear hz hy
  have ka : W0.cell? ⟨w.heap.size, 3, none⟩ = some (.slice a3 s.length c3) := TA.out.cell 3
  have SZ := hide (szByteS_r W0 a3 c3 s.length x1 l3 p1 b1)
  go_wp2_with fail
  refine SZ.out.mono ?_
  rintro e V ⟨⟨y, rfl, hy⟩, hw⟩
  have hw := hw.symm
  subst hw
  clear SZ ka
  rcases hy with ⟨hy, rfl⟩ | ⟨hy, hz⟩
  · skip
    go_wp2
    go_ret
    exact ⟨⟨-1, rfl, fun h => absurd h (by decide), fun _ => rfl⟩, N.out⟩
  obtain ⟨x2, e2⟩ : ∃ x, x = y := ⟨_, rfl⟩
  subst e2
  have p2 : 0 ≤ x2 := by omega
  have b2 : x2 ≤ 1048576 := by omega
  have t2 : decide (x2 < 0) = false := decide_eq_false (by omega)
  have Z2 := hide hz
  clear hz hy
  have ka : W0.cell? ⟨w.heap.size, 4, none⟩ = some (.string ⟨⟨ho⟩⟩) := TA.out.cell 4
  have s1 : IntKind.i64.wrap (x2 - (ho.length : Int)) = x2 - (ho.length : Int) := by rw [IntKind.wrap_i64]; omega
  by_cases hh : x2 < (ho.length : Int)
  · have t1 : decide (x2 - (ho.length : Int) < 0) = true := decide_eq_true (by omega)
    go_wp2
    go_ret
    exact ⟨⟨-1, rfl, fun h => absurd h (by decide), fun _ => rfl⟩, N.out⟩
  have t1 : decide (x2 - (ho.length : Int) < 0) = false := decide_eq_false (by omega)
  obtain ⟨x3, e3⟩ : ∃ x, x = x2 - (ho.length : Int) := ⟨_, rfl⟩
  rw [← e3] at s1 t1
  have p3 : 0 ≤ x3 := by omega
  have b3 : x3 ≤ 1048576 := by omega
  have Z3 := hide e3
  go_upto_region 10 with fail
  clear s1 t1 ka
  try rw [← Z3.out]
  clear e3 hh
  have ka : W0.cell? ⟨w.heap.size, 5, none⟩ = some (.slice a5 pr.length c5) := TA.out.cell 5
  have SZ := hide (szStringS_any W0 g5 a5 c5 pr x3 HP.out.pr l5 LZ.out p3 b3)
  go_wp2_with fail
  refine SZ.out.mono ?_
  rintro e V ⟨rfl, hw⟩
  have hw := hw.symm
  subst hw
  obtain ⟨y, hY⟩ : ∃ y, y = leftT x3 pr := ⟨_, rfl⟩
  rw [← hY]
  have hy : Lft x3 ((pr.length : Int) + (sumT pr : Int)) y := by
    rw [hY]
    unfold leftT
    by_cases hx : x3 < (pr.length : Int) + (sumT pr : Int)
    · rw [if_pos hx]; exact .inl ⟨hx, rfl⟩
    · rw [if_neg hx]; exact .inr ⟨by omega, by omega⟩
  clear hY
  clear SZ ka
  rcases hy with ⟨hy, rfl⟩ | ⟨hy, hz⟩
  · skip
    go_wp2
    go_ret
    exact ⟨⟨-1, rfl, fun h => absurd h (by decide), fun _ => rfl⟩, N.out⟩
  obtain ⟨x4, e4⟩ : ∃ x, x = y := ⟨_, rfl⟩
  subst e4
  have p4 : 0 ≤ x4 := by omega
  have b4 : x4 ≤ 1048576 := by omega
  have t4 : decide (x4 < 0) = false := decide_eq_false (by omega)
  have Z4 := hide hz
  clear hz hy
  have ka : W0.cell? ⟨w.heap.size, 6, none⟩ = some (.slice a6 ti.length c6) := TA.out.cell 6
  have SZ := hide (szByteS_r W0 a6 c6 ti.length x4 l6 p4 b4)
  go_wp2_with fail
  refine SZ.out.mono ?_
  rintro e V ⟨⟨y, rfl, hy⟩, hw⟩
  have hw := hw.symm
  subst hw
  clear SZ ka
  rcases hy with ⟨hy, rfl⟩ | ⟨hy, hz⟩
  · skip
    go_wp2
    go_ret
    exact ⟨⟨-1, rfl, fun h => absurd h (by decide), fun _ => rfl⟩, N.out⟩
  obtain ⟨x5, e5⟩ : ∃ x, x = y := ⟨_, rfl⟩
  subst e5
  have p5 : 0 ≤ x5 := by omega
  have b5 : x5 ≤ 1048576 := by omega
  have t5 : decide (x5 < 0) = false := decide_eq_false (by omega)
  have Z5 := hide hz
  clear hz hy
  have ka : W0.cell? ⟨w.heap.size, 9, none⟩ = some (.slice a9 bi.length c9) := TA.out.cell 9
  have SZ := hide (szByteS_r W0 a9 c9 bi.length x5 l9 p5 b5)
  go_wp2_with fail
  refine SZ.out.mono ?_
  rintro e V ⟨⟨y, rfl, hy⟩, hw⟩
  have hw := hw.symm
  subst hw
  clear SZ ka
  rcases hy with ⟨hy, rfl⟩ | ⟨hy, hz⟩
  · skip
    go_wp2
    go_ret
    exact ⟨⟨-1, rfl, fun h => absurd h (by decide), fun _ => rfl⟩, N.out⟩
  obtain ⟨x6, e6⟩ : ∃ x, x = y := ⟨_, rfl⟩
  subst e6
  have p6 : 0 ≤ x6 := by omega
  have b6 : x6 ≤ 1048576 := by omega
  have t6 : decide (x6 < 0) = false := decide_eq_false (by omega)
  have Z6 := hide hz
  clear hz hy
  have ka : W0.cell? ⟨w.heap.size, 11, none⟩ = some (.slice a11 ce.length c11) := TA.out.cell 11
  have SZ := hide (szBlobS_r W0 g11 a11 c11 ce ps x6 HP.out.ce l11 LC.out p6 b6)
  go_wp2_with fail
  refine SZ.out.mono ?_
  rintro e W1 ⟨⟨y, rfl, hy⟩, m⟩
  have TAn := hide (TA.out.up m)
  have Nn := hide (nxt N.out m)
  have HPn := hide (HP.out.up m)
  clear TA N HP m
  have TA := TAn
  have N := Nn
  have HP := HPn
  clear TAn Nn HPn
  clear SZ ka
  rcases hy with ⟨hy, rfl⟩ | ⟨hy, hz⟩
  · skip
    go_wp2
    go_ret
    exact ⟨⟨-1, rfl, fun h => absurd h (by decide), fun _ => rfl⟩, N.out⟩
  obtain ⟨x7, e7⟩ : ∃ x, x = y := ⟨_, rfl⟩
  subst e7
  have p7 : 0 ≤ x7 := by omega
  have b7 : x7 ≤ 1048576 := by omega
  have t7 : decide (x7 < 0) = false := decide_eq_false (by omega)
  have Z7 := hide hz
  clear hz hy
  have ka : W1.cell? ⟨w.heap.size, 12, none⟩ = some (.slice a12 pf.length c12) := TA.out.cell 12
  have SZ := hide (szByteS_r W1 a12 c12 pf.length x7 l12 p7 b7)
  go_wp2_with fail
  refine SZ.out.mono ?_
  rintro e V ⟨⟨y, rfl, hy⟩, hw⟩
  have hw := hw.symm
  subst hw
  clear SZ ka
  rcases hy with ⟨hy, rfl⟩ | ⟨hy, hz⟩
  · skip
    go_wp2
    go_ret
    exact ⟨⟨-1, rfl, fun h => absurd h (by decide), fun _ => rfl⟩, N.out⟩
  have t1 : decide (y < 0) = false := decide_eq_false (by omega)
  have Z8 := hide hz
  have Y8 := hide hy
  clear hz hy
  go_wp2
  go_ret
  have := Z1.out
  have := Z2.out
  have := Z3.out
  have := Z4.out
  have := Z5.out
  have := Z6.out
  have := Z7.out
  have := Z8.out
  have := Y8.out
  exact ⟨⟨y, rfl, fun _ => by omega, fun h => absurd h (by omega)⟩, N.out⟩
end Go.Proofs.YtdbgdiahddpgkaaGreat
