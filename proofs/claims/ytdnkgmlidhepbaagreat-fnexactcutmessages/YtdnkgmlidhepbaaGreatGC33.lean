import Derived.Test.YtdnkgmlidhepbaaGreatGC32
import Derived.Test.YtdnkgmlidhepbaaGreatGC30
import Derived.Deep.RegionWith
namespace Go.Proofs.YtdnkgmlidhepbaaGreat
open Go Go.RowKit
theorem SRow.lim {w : World} {B : Nat} {v : Value} {ms : List Msg} {es : List El} (h : SRow w B v ms es) : ∀ g, v.ownBlock = some g → g < w.heap.size := fun g hg => (World.ownsRow.lt h.o g hg).2
def ScP (w : World) (xs : List Int) (e : Ending) (w' : World) : Prop := (∃ v es x, e = .returned (.agg #[.int .i64 (cmC xs), v, x]) ∧ SRow w' w.heap.size v (cmL xs) es ∧ RowB w' w.heap.size x (cmR xs)) ∧ Below w.heap.size w w'
set_option maxRecDepth 100000 in
set_option maxHeartbeats 8000000 in
theorem specCM_any (w : World) (g : Nat) (a : Option Addr) (c : Nat) (xs : List Int) (hr : Rd w g a .u8 xs) (hb : Byt xs) (hz : a = none → c = 0) (hc : xs.length ≤ c) (hx : xs.length ≤ 1048576) :
    Calls Tryz.prog 13 #[.slice a xs.length c] w fun e w' => ScP w xs e w' := by
  obtain ⟨d3, hd3, hrow3⟩ := rowMl
  obtain ⟨d13, hd13, hrow13⟩ := rowM
  have n0 : Below w.heap.size w (w.alloc (.cells #[.int .i64 0, .slice none 0 0, .slice none 0 0] 38)) := (Below.refl _ _).alloc (Nat.le_refl _) _
  have U0 : RwC (w.alloc (.cells #[.int .i64 0, .slice none 0 0, .slice none 0 0] 38)) w.heap.size [.int .i64 0, .slice none 0 0, .slice none 0 0] 38 := RwC.new w _ _
  have DC := hide (fun (W : World) (i : Nat) (n : Below w.heap.size w W) => specDM_new W g a c xs (i : Int) (hr.up n) hb hz hc hx)
  have HR := hide hr
  have HB := hide hb
  have HZ := hide hz
  have CS := hide (CM.start xs)
  clear hr hb hz
  go_enter Tryz.func13, Tryz.ntmps13
  go_upto_region 1 with fail
  generalize w.alloc (.cells #[.int .i64 0, .slice none 0 0, .slice none 0 0] 38) = W1 at *
  have lw := U0.lt
  have n2 : Below W1.heap.size W1 (W1.alloc (.cells #[.int .i64 0, .slice none 0 0, .slice none 0 0] 38)) := (Below.refl _ _).alloc (Nat.le_refl _) _
  have T1 : RwC (W1.alloc (.cells #[.int .i64 0, .slice none 0 0, .slice none 0 0] 38)) W1.heap.size [.int .i64 0, .slice none 0 0, .slice none 0 0] 38 := RwC.new W1 _ _
  have OQ := only_setG (W1.alloc (.cells #[.int .i64 0, .slice none 0 0, .slice none 0 0] 38)) W1.heap.size [.int .i64 0, .slice none 0 0, .slice none 0 0] 0
  have T2 : RwC ((W1.alloc (.cells #[.int .i64 0, .slice none 0 0, .slice none 0 0] 38)).setCells W1.heap.size 0 [.int .i64 0, .slice none 0 0, .slice none 0 0]) W1.heap.size [.int .i64 0, .slice none 0 0, .slice none 0 0] 38 := T1.put rfl
  have n3 : Below W1.heap.size W1 ((W1.alloc (.cells #[.int .i64 0, .slice none 0 0, .slice none 0 0] 38)).setCells W1.heap.size 0 [.int .i64 0, .slice none 0 0, .slice none 0 0]) := n2.trans (OQ.below (Nat.le_refl _))
  have THR := T1.thereG
  have ON : (#[.int .i64 0, .slice none 0 0, .slice none 0 0] : Array Value).all (·.oneCell') = true := one15 _ rfl
  have U2 := U0.up n3
  have N2 := nxt n0 n3
  have BL : (Instr.build 38 #[]).run Tryz.prog W1 = .ok (.agg #[.int .i64 0, .slice none 0 0, .slice none 0 0]) W1 := by kernel_rfl
  clear U0 n0 n2 T1 OQ n3
  go_upto_region 2 with (first
    | (refine wpList_store_mid rfl 38 (.tmp 3) (.tmp 6) rfl W1.heap.size 0 #[.int .i64 0, .slice none 0 0, .slice none 0 0] rfl rfl THR iMl ON ?_))
  clear THR ON BL
  generalize (W1.alloc (.cells #[.int .i64 0, .slice none 0 0, .slice none 0 0] 38)).setCells W1.heap.size 0 [.int .i64 0, .slice none 0 0, .slice none 0 0] = W2 at *
  obtain ⟨b4, hb4⟩ : ∃ g, W1.heap.size = g := ⟨_, rfl⟩
  rw [hb4] at T2 lw ⊢
  have l4 := T2.lt
  obtain ⟨B, hB⟩ : ∃ g, W2.heap.size = g := ⟨_, rfl⟩
  have sB : B ≤ W2.heap.size := by omega
  have b4B : b4 < B := by omega
  clear hb4 l4 hB
  have R2 := hide (SRow.nil W2 B)
  have H2 := hide T2
  have HU := hide U2
  have HN := hide N2
  clear T2 U2 N2
  go_wp2_with fail
  go_loopw [4] (fun j wr => ∃ (i : Nat) (v : Value) (ms : List Msg) (es : List El), j = .int .i64 (i : Int) ∧ Hid (CM xs i ms) ∧ Hid (RwC wr b4 [.int .i64 0, v, .slice none 0 0] 38) ∧ Hid (SRow wr B v ms es) ∧ Hid (RwC wr w.heap.size [.int .i64 0, .slice none 0 0, .slice none 0 0] 38) ∧ Hid (Below w.heap.size w wr) ∧ B ≤ wr.heap.size) (fun j _ => xs.length + 4 - (intOf j).toNat)
  case atStart => exact ⟨0, _, [], [], rfl, CS, H2, R2, HU, HN, sB⟩
  case round =>
    obtain ⟨i, v, ms, es, rfl, hC, hT, hR, hU, hN, hS⟩ := hrel
    clear CS H2 R2 HU HN sB
    have iL := hC.out.le
    have nL := hC.out.n
    obtain ⟨cd, ecd⟩ : ∃ x, Hid (dmC xs (i : Int) = x) := ⟨_, rfl⟩
    obtain ⟨m, emm⟩ : ∃ x, Hid (dmR xs (i : Int) = x) := ⟨_, rfl⟩
    obtain ⟨nx, enx⟩ : ∃ x, Hid (dmE xs (i : Int) = x) := ⟨_, rfl⟩
    have D := hide (DC.out wr i hN.out)
    go_wp2_with fail
    refine D.out.mono ?_
    rintro e Y1 ⟨⟨p, rfl, hA, hNo⟩, n1⟩
    rw [ecd.out, emm.out, enx.out]
    rw [emm.out] at hA hNo
    have hA' := hide hA
    have hNo' := hide hNo
    clear hA hNo D
    have T1 := hide (hT.out.up n1)
    have R1 := hide (hR.out.up n1)
    have U1 := hide (hU.out.up n1)
    have N1 := hide (nxt hN.out n1)
    have s1 := n1.size
    have vlim := hide hR.out.lim
    clear hT hR hU hN n1
    have nA : Below Y1.heap.size Y1 (Y1.alloc (.cells #[.int .i64 0, .int .i64 0, .int .i64 0, .slice none 0 0, .slice none 0 0, .string ⟨#[]⟩, .slice none 0 0, .slice none 0 0, .int .i64 0, .int .i64 0, .slice none 0 0, .bool false, .slice none 0 0, .slice none 0 0, .int .i64 0] 28)) := (Below.refl _ _).alloc (Nat.le_refl _) _
    have ZA : RwC (Y1.alloc (.cells #[.int .i64 0, .int .i64 0, .int .i64 0, .slice none 0 0, .slice none 0 0, .string ⟨#[]⟩, .slice none 0 0, .slice none 0 0, .int .i64 0, .int .i64 0, .slice none 0 0, .bool false, .slice none 0 0, .slice none 0 0, .int .i64 0] 28)) Y1.heap.size [.int .i64 0, .int .i64 0, .int .i64 0, .slice none 0 0, .slice none 0 0, .string ⟨#[]⟩, .slice none 0 0, .slice none 0 0, .int .i64 0, .int .i64 0, .slice none 0 0, .bool false, .slice none 0 0, .slice none 0 0, .int .i64 0] 28 := RwC.new Y1 _ _
    have OQ := only_setG (Y1.alloc (.cells #[.int .i64 0, .int .i64 0, .int .i64 0, .slice none 0 0, .slice none 0 0, .string ⟨#[]⟩, .slice none 0 0, .slice none 0 0, .int .i64 0, .int .i64 0, .slice none 0 0, .bool false, .slice none 0 0, .slice none 0 0, .int .i64 0] 28)) Y1.heap.size [.int .i64 cd, .int .i64 m.k, .int .i64 m.v, .slice p.a2 m.r.length p.c2, .slice p.a3 m.s.length p.c3, .string ⟨⟨m.ho⟩⟩, .slice p.a5 m.pr.length p.c5, .slice p.a6 m.ti.length p.c6, .int .i64 m.ag, .int .i64 m.ea, .slice p.a9 m.bi.length p.c9, .bool m.rs, .slice p.a11 m.ce.length p.c11, .slice p.a12 m.pf.length p.c12, .int .i64 nx] 0
    have BX : RwC ((Y1.alloc (.cells #[.int .i64 0, .int .i64 0, .int .i64 0, .slice none 0 0, .slice none 0 0, .string ⟨#[]⟩, .slice none 0 0, .slice none 0 0, .int .i64 0, .int .i64 0, .slice none 0 0, .bool false, .slice none 0 0, .slice none 0 0, .int .i64 0] 28)).setCells Y1.heap.size 0 [.int .i64 cd, .int .i64 m.k, .int .i64 m.v, .slice p.a2 m.r.length p.c2, .slice p.a3 m.s.length p.c3, .string ⟨⟨m.ho⟩⟩, .slice p.a5 m.pr.length p.c5, .slice p.a6 m.ti.length p.c6, .int .i64 m.ag, .int .i64 m.ea, .slice p.a9 m.bi.length p.c9, .bool m.rs, .slice p.a11 m.ce.length p.c11, .slice p.a12 m.pf.length p.c12, .int .i64 nx]) Y1.heap.size [.int .i64 cd, .int .i64 m.k, .int .i64 m.v, .slice p.a2 m.r.length p.c2, .slice p.a3 m.s.length p.c3, .string ⟨⟨m.ho⟩⟩, .slice p.a5 m.pr.length p.c5, .slice p.a6 m.ti.length p.c6, .int .i64 m.ag, .int .i64 m.ea, .slice p.a9 m.bi.length p.c9, .bool m.rs, .slice p.a11 m.ce.length p.c11, .slice p.a12 m.pf.length p.c12, .int .i64 nx] 28 := ZA.put rfl
    have nS : Below Y1.heap.size Y1 ((Y1.alloc (.cells #[.int .i64 0, .int .i64 0, .int .i64 0, .slice none 0 0, .slice none 0 0, .string ⟨#[]⟩, .slice none 0 0, .slice none 0 0, .int .i64 0, .int .i64 0, .slice none 0 0, .bool false, .slice none 0 0, .slice none 0 0, .int .i64 0] 28)).setCells Y1.heap.size 0 [.int .i64 cd, .int .i64 m.k, .int .i64 m.v, .slice p.a2 m.r.length p.c2, .slice p.a3 m.s.length p.c3, .string ⟨⟨m.ho⟩⟩, .slice p.a5 m.pr.length p.c5, .slice p.a6 m.ti.length p.c6, .int .i64 m.ag, .int .i64 m.ea, .slice p.a9 m.bi.length p.c9, .bool m.rs, .slice p.a11 m.ce.length p.c11, .slice p.a12 m.pf.length p.c12, .int .i64 nx]) := nA.trans (OQ.below (Nat.le_refl _))
    have THR := ZA.thereG
    have ON : (#[.int .i64 cd, .int .i64 m.k, .int .i64 m.v, .slice p.a2 m.r.length p.c2, .slice p.a3 m.s.length p.c3, .string ⟨⟨m.ho⟩⟩, .slice p.a5 m.pr.length p.c5, .slice p.a6 m.ti.length p.c6, .int .i64 m.ag, .int .i64 m.ea, .slice p.a9 m.bi.length p.c9, .bool m.rs, .slice p.a11 m.ce.length p.c11, .slice p.a12 m.pf.length p.c12, .int .i64 nx] : Array Value).all (·.oneCell') = true := one15m cd p m nx
    clear nA ZA OQ
    unfold rsV
    go_upto_region 4 with (refine wpList_store_mid rfl 28 (.tmp 5) (.tmp 9) rfl Y1.heap.size 0 #[.int .i64 cd, .int .i64 m.k, .int .i64 m.v, .slice p.a2 m.r.length p.c2, .slice p.a3 m.s.length p.c3, .string ⟨⟨m.ho⟩⟩, .slice p.a5 m.pr.length p.c5, .slice p.a6 m.ti.length p.c6, .int .i64 m.ag, .int .i64 m.ea, .slice p.a9 m.bi.length p.c9, .bool m.rs, .slice p.a11 m.ce.length p.c11, .slice p.a12 m.pf.length p.c12, .int .i64 nx] rfl rfl THR iMR ON ?_)
    clear THR ON
    generalize (Y1.alloc (.cells #[.int .i64 0, .int .i64 0, .int .i64 0, .slice none 0 0, .slice none 0 0, .string ⟨#[]⟩, .slice none 0 0, .slice none 0 0, .int .i64 0, .int .i64 0, .slice none 0 0, .bool false, .slice none 0 0, .slice none 0 0, .int .i64 0] 28)).setCells Y1.heap.size 0 [.int .i64 cd, .int .i64 m.k, .int .i64 m.v, .slice p.a2 m.r.length p.c2, .slice p.a3 m.s.length p.c3, .string ⟨⟨m.ho⟩⟩, .slice p.a5 m.pr.length p.c5, .slice p.a6 m.ti.length p.c6, .int .i64 m.ag, .int .i64 m.ea, .slice p.a9 m.bi.length p.c9, .bool m.rs, .slice p.a11 m.ce.length p.c11, .slice p.a12 m.pf.length p.c12, .int .i64 nx] = Y2 at *
    have T2 := hide (T1.out.up nS)
    have R2 := hide (R1.out.up nS)
    have U2 := hide (U1.out.up nS)
    have N2 := hide (nxt N1.out nS)
    have A2 := hide (hA'.out.up nS)
    have s2 := nS.size
    clear T1 R1 U1 N1 hA' nS
    obtain ⟨b6, h6⟩ : ∃ g, Y1.heap.size = g := ⟨_, rfl⟩
    rw [h6] at BX ⊢
    have l6 := BX.lt
    have k0 : Y2.cell? ⟨b6, 0, none⟩ = some (.int .i64 cd) := BX.cell 0
    have k14 : Hid (Y2.cell? ⟨b6, 14, none⟩ = some (.int .i64 nx)) := BX.cell 14
    have RM := hide (BX.partD 1 [.int .i64 m.k, .int .i64 m.v, .slice p.a2 m.r.length p.c2, .slice p.a3 m.s.length p.c3, .string ⟨⟨m.ho⟩⟩, .slice p.a5 m.pr.length p.c5, .slice p.a6 m.ti.length p.c6, .int .i64 m.ag, .int .i64 m.ea, .slice p.a9 m.bi.length p.c9, .bool m.rs, .slice p.a11 m.ce.length p.c11, .slice p.a12 m.pf.length p.c12] rfl)
    have x6 : b6 < Y2.heap.size ∧ wr.heap.size ≤ b6 := by omega
    clear BX h6 s1 s2 l6
    by_cases c0 : cd = 0
    · obtain ⟨j, ej, hj4, hC'⟩ := hC.out.next HB.out (by rw [ecd.out]; exact c0)
      rw [emm.out] at hC'
      obtain rfl : nx = (j : Int) := by rw [← enx.out]; exact ej
      have CN := hide hC'
      subst c0
      obtain ⟨v', Y3, ap, R3, kp3, N3⟩ := R2.out.app m ⟨p, el0.bs, el0.F⟩ (by omega) A2.out (fun q hq => hNo'.out q (vlim.out q hq)) (fun q hq => hNo'.out q (Nat.lt_of_lt_of_le hq hS)) (by omega)
      obtain ⟨va, vc, hv', -⟩ := R3.slice
      obtain ⟨nm, hnm⟩ : ∃ n, (ms ++ [m]).length = n := ⟨_, rfl⟩
      rw [hnm] at hv'
      subst hv'
      have T3 : RwC Y3 b4 [.int .i64 0, v, .slice none 0 0] 38 := (N3.block b4 b4B).trans T2.out
      have O3 := Only.setCell Y3 b4 1 (.slice va nm vc)
      have TF : Hid (RwC (Y3.setCell ⟨b4, 1, none⟩ (.slice va nm vc)) b4 [.int .i64 0, .slice va nm vc, .slice none 0 0] 38) := T3.set 1 _
      have RF := hide (R3.onl O3 b4B)
      have UF : Hid (RwC (Y3.setCell ⟨b4, 1, none⟩ (.slice va nm vc)) w.heap.size [.int .i64 0, .slice none 0 0, .slice none 0 0] 38) := (O3.block _ (by omega)).trans ((N3.block _ (by omega)).trans U2.out)
      have NF : Hid (Below w.heap.size w (Y3.setCell ⟨b4, 1, none⟩ (.slice va nm vc))) := (N2.out.trans (N3.mono (by omega))).trans (O3.below (by omega))
      have SF : B ≤ (Y3.setCell ⟨b4, 1, none⟩ (.slice va nm vc)).heap.size := by rw [O3.size]; have := N3.size; omega
      have t1 : Y2.cell? ⟨b4, 1, none⟩ = some v := T2.out.cell 1
      have t3 : Y3.cell? ⟨b4, 1, none⟩ = some v := T3.cell 1
      have f3 := T3.free 1
      have K14 : Hid ((Y3.setCell ⟨b4, 1, none⟩ (.slice va nm vc)).cell? ⟨b6, 14, none⟩ = some (.int .i64 (j : Int))) := (World.cell?_of_block (a := ⟨b6, 14, none⟩) (O3.block b6 (by omega))).trans ((World.cell?_of_block (a := ⟨b6, 14, none⟩) (kp3 b6 (by omega) (fun e => by have := vlim.out b6 e; omega))).trans k14.out)
      have bs0 : (Instr.buildSlice 36 1 #[(0, .agg #[.int .i64 m.k, .int .i64 m.v, .slice p.a2 m.r.length p.c2, .slice p.a3 m.s.length p.c3, .string ⟨⟨m.ho⟩⟩, .slice p.a5 m.pr.length p.c5, .slice p.a6 m.ti.length p.c6, .int .i64 m.ag, .int .i64 m.ea, .slice p.a9 m.bi.length p.c9, .bool m.rs, .slice p.a11 m.ce.length p.c11, .slice p.a12 m.pf.length p.c12])]).run Tryz.prog Y2 = .ok (.slice (some ⟨Y2.heap.size, 0, none⟩) 1 1) (Y2.alloc (.cells #[.int .i64 m.k, .int .i64 m.v, .slice p.a2 m.r.length p.c2, .slice p.a3 m.s.length p.c3, .string ⟨⟨m.ho⟩⟩, .slice p.a5 m.pr.length p.c5, .slice p.a6 m.ti.length p.c6, .int .i64 m.ag, .int .i64 m.ea, .slice p.a9 m.bi.length p.c9, .bool m.rs, .slice p.a11 m.ce.length p.c11, .slice p.a12 m.pf.length p.c12] 26)) := by kernel_rfl
      have ap' : (Builtin.append_ #[36, 36] 36 #[v, .slice (some ⟨Y2.heap.size, 0, none⟩) 1 1]).run Tryz.prog (Y2.alloc (.cells #[.int .i64 m.k, .int .i64 m.v, .slice p.a2 m.r.length p.c2, .slice p.a3 m.s.length p.c3, .string ⟨⟨m.ho⟩⟩, .slice p.a5 m.pr.length p.c5, .slice p.a6 m.ti.length p.c6, .int .i64 m.ag, .int .i64 m.ea, .slice p.a9 m.bi.length p.c9, .bool m.rs, .slice p.a11 m.ce.length p.c11, .slice p.a12 m.pf.length p.c12] 26)) = .ok (.slice va nm vc) Y3 := ap
      have RM' := RM.out
      have xj : j ≤ xs.length := CN.out.le
      clear T2 R2 U2 N2 A2 T3 O3 R3 kp3 N3 ap k14 RM hC hC' vlim hnm x6
      go_upto_region 11 with (first
        | (refine wpList_load_mid rfl 26 (.tmp 28) rfl b6 1 rfl [.int .i64 m.k, .int .i64 m.v, .slice p.a2 m.r.length p.c2, .slice p.a3 m.s.length p.c3, .string ⟨⟨m.ho⟩⟩, .slice p.a5 m.pr.length p.c5, .slice p.a6 m.ti.length p.c6, .int .i64 m.ag, .int .i64 m.ea, .slice p.a9 m.bi.length p.c9, .bool m.rs, .slice p.a11 m.ce.length p.c11, .slice p.a12 m.pf.length p.c12] d13 RM' hd13 hrow13 iM ?_)
        | (refine wpList_bsT _ rfl 36 1 #[(0, .tmp 29)] rfl #[(0, .agg #[.int .i64 m.k, .int .i64 m.v, .slice p.a2 m.r.length p.c2, .slice p.a3 m.s.length p.c3, .string ⟨⟨m.ho⟩⟩, .slice p.a5 m.pr.length p.c5, .slice p.a6 m.ti.length p.c6, .int .i64 m.ag, .int .i64 m.ea, .slice p.a9 m.bi.length p.c9, .bool m.rs, .slice p.a11 m.ce.length p.c11, .slice p.a12 m.pf.length p.c12])] rfl _ _ bs0 ?_)
        | (at_builtin; refine Lib.wpList_append_run _ rfl _ _ 36 36 rfl _ _ rfl rfl _ _ ap' ?_))
      generalize Y3.setCell ⟨b4, 1, none⟩ (.slice va nm vc) = Y4 at *
      have k14 := K14.out
      clear bs0 ap' RM' t1 t3 f3 k0 K14
      go_wp2
      go_roundw
      case rel => exact ⟨j, _, ms ++ [m], _, rfl, CN, TF, RF, UF, NF, SF⟩
      case measure => simp [intOf]; omega
    · obtain ⟨e1, e2'⟩ := hC.out.stop (by rw [ecd.out]; exact c0)
      subst e1
      have e2 := hide e2'
      clear e2'
      have u0 : (cd == 0) = false := beq_eq_false_iff_ne.2 c0
      obtain ⟨va, vc, hv, -⟩ := R2.out.slice
      subst hv
      obtain ⟨nm, hnm⟩ : ∃ n, Hid ((cmL xs).length = n) := ⟨_, rfl⟩
      rw [hnm.out] at T2 R2 vlim
      have t0 : Y2.cell? ⟨b4, 0, none⟩ = some (.int .i64 0) := T2.out.cell 0
      have t1 : Y2.cell? ⟨b4, 1, none⟩ = some (.slice va nm vc) := T2.out.cell 1
      have t2 : Y2.cell? ⟨b4, 2, none⟩ = some (.slice none 0 0) := T2.out.cell 2
      by_cases c1 : cd = 1
      · have eC : Hid (cmC xs = 0) := by show _ = _; unfold cmC; rw [← e2.out, ecd.out, if_pos c1]
        obtain ⟨ys, ey⟩ : ∃ ys, xs.drop i = ys := ⟨_, rfl⟩
        have eR : Hid (cmR xs = ys) := by show _ = _; unfold cmR; rw [← e2.out, ecd.out, if_pos c1]; exact ey
        subst c1
        have ly : ys.length = xs.length - i := by rw [← ey, List.length_drop]
        have SLC := sl_low Y2 a xs.length c i ys.length iL hc ly
        have RY : Rd Y2 g (slA a i c) .u8 ys := by rw [← ey]; exact (HR.out.up N2.out).slD hc i
        have CL := hide (l1CopyN_any Y2 g (slA a i c) (c - i) ys RY (fun h => slA_none HZ.out h) (by omega))
        clear ly ey RY u0
        generalize slA a i c = aR at *
        generalize c - i = cR at *
        clear k14 RM hC A2 t0 t1 t2
        go_wp2_with (refine wpList_slT _ rfl 22 (.tmp 13) (some (.tmp 14)) none rfl (.slice a xs.length c) (some (.int .i64 (i : Int))) none rfl rfl rfl _ SLC ?_)
        refine CL.out.mono ?_
        rintro e Y3 ⟨x, rfl, RX, n3⟩
        obtain ⟨xa, xc, gx, rfl, -, -, -, -⟩ := RX.rd
        obtain ⟨ny, hny⟩ : ∃ n, Hid (ys.length = n) := ⟨_, rfl⟩
        have RX : RowB Y3 Y2.heap.size (.slice xa ys.length xc) ys := RX
        have T3 := T2.out.up n3
        have R3 := R2.out.up n3
        have U3 := U2.out.up n3
        have N3 := nxt N2.out n3
        have s2 : B ≤ Y2.heap.size := by omega
        rw [hny.out] at RX ⊢
        have O4 := Only.setCell Y3 b4 2 (.slice xa ny xc)
        have T4 : RwC (Y3.setCell ⟨b4, 2, none⟩ (.slice xa ny xc)) b4 [.int .i64 0, .slice va nm vc, .slice xa ny xc] 38 := T3.set 2 _
        have R4 := R3.onl O4 b4B
        have U4 : RwC (Y3.setCell ⟨b4, 2, none⟩ (.slice xa ny xc)) w.heap.size [.int .i64 0, .slice none 0 0, .slice none 0 0] 38 := (O4.block _ (by omega)).trans U3
        have N4 : Below w.heap.size w (Y3.setCell ⟨b4, 2, none⟩ (.slice xa ny xc)) := N3.trans (O4.below (by omega))
        have X4 : RowB (Y3.setCell ⟨b4, 2, none⟩ (.slice xa ny xc)) Y2.heap.size (.slice xa ny xc) ys := RX.only O4 (by omega)
        have q2 : Y3.cell? ⟨b4, 2, none⟩ = some (.slice none 0 0) := T3.cell 2
        have f2 := T3.free 2
        clear T2 R2 U2 N2 T3 R3 U3 N3 O4 RX n3 SLC CL k0
        go_upto_region 6 with fail
        clear q2 f2
        generalize Y3.setCell ⟨b4, 2, none⟩ (.slice xa ny xc) = Y4 at *
        have RG := T4.rangeG
        have THR := U4.thereG
        have OQ := only_setG Y4 w.heap.size [.int .i64 0, .slice va nm vc, .slice xa ny xc] 0
        have RR := World.rangeAt_setCells_same Y4 w.heap.size 0 [.int .i64 0, .slice va nm vc, .slice xa ny xc] THR
        have RES : Hid (ScP w xs (.returned (.agg #[.int .i64 0, .slice va nm vc, .slice xa ny xc])) (Y4.setCells w.heap.size 0 [.int .i64 0, .slice va nm vc, .slice xa ny xc])) := by
          show ScP _ _ _ _
          unfold ScP
          rw [eC.out, eR.out]
          have R5 := (R4.onl OQ (by omega)).base (show w.heap.size ≤ B by omega)
          exact ⟨⟨.slice va nm vc, es, .slice xa ny xc, rfl, R5, (X4.only OQ (by omega)).base (by omega)⟩, N4.trans (OQ.below (Nat.le_refl _))⟩
        have ON : (#[.int .i64 0, .slice va nm vc, .slice xa ny xc] : Array Value).all (·.oneCell') = true := one15 _ rfl
        clear OQ T4 U4 N4 R4 X4
        go_wp2_with (first
          | (refine wpList_load_mid rfl 38 (.tmp 3) rfl b4 0 rfl [.int .i64 0, .slice va nm vc, .slice xa ny xc] d3 RG hd3 hrow3 iMl ?_)
          | (refine wpList_store_mid rfl 38 (.tmp 2) (.tmp 18) rfl w.heap.size 0 #[.int .i64 0, .slice va nm vc, .slice xa ny xc] rfl rfl THR iMl ON ?_))
        exact bodyPost_ret (v := .agg #[.int .i64 0, .slice va nm vc, .slice xa ny xc]) (results_cellG Tryz.results13 _ _ w.heap.size _ d3 rfl RR hd3 hrow3 iMl) rfl RES.out
      · have u1 : (cd == 1) = false := beq_eq_false_iff_ne.2 c1
        have eC : Hid (cmC xs = cd) := by show _ = _; unfold cmC; rw [← e2.out, ecd.out, if_neg c1]
        have eR : Hid (cmR xs = []) := by show _ = _; unfold cmR; rw [← e2.out, ecd.out, if_neg c1]
        have O3 := Only.setCell Y2 b4 0 (.int .i64 cd)
        have T3 : RwC (Y2.setCell ⟨b4, 0, none⟩ (.int .i64 cd)) b4 [.int .i64 cd, .slice va nm vc, .slice none 0 0] 38 := T2.out.set 0 _
        have R3 := R2.out.onl O3 b4B
        have U3 : RwC (Y2.setCell ⟨b4, 0, none⟩ (.int .i64 cd)) w.heap.size [.int .i64 0, .slice none 0 0, .slice none 0 0] 38 := (O3.block _ (by omega)).trans U2.out
        have N3 : Below w.heap.size w (Y2.setCell ⟨b4, 0, none⟩ (.int .i64 cd)) := N2.out.trans (O3.below (by omega))
        have f0 := T2.out.free 0
        clear T2 R2 U2 N2 A2 O3 k14 RM hC x6 t1 t2
        go_upto_region 9 with fail
        clear t0 f0 k0
        generalize Y2.setCell ⟨b4, 0, none⟩ (.int .i64 cd) = Y3 at *
        have RG := T3.rangeG
        have THR := U3.thereG
        have OQ := only_setG Y3 w.heap.size [.int .i64 cd, .slice va nm vc, .slice none 0 0] 0
        have RR := World.rangeAt_setCells_same Y3 w.heap.size 0 [.int .i64 cd, .slice va nm vc, .slice none 0 0] THR
        have RES : Hid (ScP w xs (.returned (.agg #[.int .i64 cd, .slice va nm vc, .slice none 0 0])) (Y3.setCells w.heap.size 0 [.int .i64 cd, .slice va nm vc, .slice none 0 0])) := by
          show ScP _ _ _ _
          unfold ScP
          rw [eC.out, eR.out]
          have R5 := (R3.onl OQ (by omega)).base (show w.heap.size ≤ B by omega)
          exact ⟨⟨.slice va nm vc, es, .slice none 0 0, rfl, R5, RowB.nil _ _⟩, N3.trans (OQ.below (Nat.le_refl _))⟩
        have ON : (#[.int .i64 cd, .slice va nm vc, .slice none 0 0] : Array Value).all (·.oneCell') = true := one15 _ rfl
        clear OQ T3 U3 N3 R3
        go_wp2_with (first
          | (refine wpList_load_mid rfl 38 (.tmp 3) rfl b4 0 rfl [.int .i64 cd, .slice va nm vc, .slice none 0 0] d3 RG hd3 hrow3 iMl ?_)
          | (refine wpList_store_mid rfl 38 (.tmp 2) (.tmp 25) rfl w.heap.size 0 #[.int .i64 cd, .slice va nm vc, .slice none 0 0] rfl rfl THR iMl ON ?_))
        exact bodyPost_ret (v := .agg #[.int .i64 cd, .slice va nm vc, .slice none 0 0]) (results_cellG Tryz.results13 _ _ w.heap.size _ d3 rfl RR hd3 hrow3 iMl) rfl RES.out
end Go.Proofs.YtdnkgmlidhepbaaGreat
namespace Go.Proofs.YtdnkgmlidhepbaaGreat
open Go Go.RowKit
structure RdMs (w : World) (g : Nat) (a : Option Addr) (ms : List Msg) (P : Nat → MQ) : Prop where
  r : 0 < ms.length → a = some ⟨g, 0, none⟩ ∧ g < w.heap.size ∧ ∀ i, i < ms.length → w.rangeAt g (i * 13) (mgV (P i) (ms.getD i msg0)).toList
  b : ∀ i, i < ms.length → HasM w (P i) (ms.getD i msg0)
theorem SRow.cells {w : World} {B : Nat} {v : Value} {ms : List Msg} {es : List El} (h : SRow w B v ms es) (h0 : 0 < ms.length) : ∃ g c, v = .slice (some ⟨g, 0, none⟩) ms.length c ∧ B ≤ g ∧ g < w.heap.size ∧ v.ownBlock = some g ∧ (∀ i, i < ms.length → w.rangeAt g (i * 13) (mgV (es.getD i el0).p (ms.getD i msg0)).toList) := by
  rcases h.o.2 with ⟨_, h'⟩ | ⟨g, cap, cur, rfl, hb, hg, hnc, hcm, hcs, ht⟩
  · omega
  · refine ⟨g, cap, rfl, hb, (Array.getElem?_eq_some_iff.1 hg).1, rfl, fun i hi => ?_⟩
    intro j u hj
    have hj13 : j < 13 := by
      have := (List.getElem?_eq_some_iff.1 hj).1
      rw [mgV_len] at this
      exact this
    rw [cell_of_row w g _ cur _ (0, 0) hg]
    have : (cur.toList.take (ms.length * 13))[i * 13 + j]? = (mgCs ms es)[i * 13 + j]? := by rw [ht]
    rw [List.getElem?_take, if_pos (by omega), mgCs_at ms es i j h.l hi hj13, hj] at this
    simpa using this
theorem SRow.rd {w : World} {B : Nat} {v : Value} {ms : List Msg} {es : List El} (h : SRow w B v ms es) : ∃ g a c, v = .slice a ms.length c ∧ RdMs w g a ms (fun i => (es.getD i el0).p) := by
  by_cases h0 : 0 < ms.length
  · obtain ⟨g, c, rfl, -, hg, -, hc⟩ := h.cells h0
    exact ⟨g, _, c, rfl, fun _ => ⟨rfl, hg, hc⟩, h.b⟩
  · obtain ⟨a, c, rfl, -⟩ := h.slice
    exact ⟨0, a, c, rfl, fun h' => absurd h' h0, h.b⟩
theorem RdMs.up {w w' : World} {g : Nat} {a : Option Addr} {ms : List Msg} {P : Nat → MQ} (h : RdMs w g a ms P) (n : Below w.heap.size w w') : RdMs w' g a ms P :=
  ⟨fun h0 => ⟨(h.r h0).1, Nat.lt_of_lt_of_le (h.r h0).2.1 n.size, fun i hi j u hj => (World.cell?_of_block (a := ⟨g, i * 13 + j, none⟩) (n.block g (h.r h0).2.1)).trans ((h.r h0).2.2 i hi j u hj)⟩, fun i hi => (h.b i hi).up n⟩
set_option maxRecDepth 100000 in
set_option maxHeartbeats 4000000 in
theorem eqMessageS_same (w : World) (g g' : Nat) (a a' : Option Addr) (c c' : Nat) (ms : List Msg) (P P' : Nat → MQ) (h : RdMs w g a ms P) (h' : RdMs w g' a' ms P') (hI : ∀ i, i < ms.length → IsM (ms.getD i msg0)) (hl : ms.length ≤ 1048576) :
    Calls Tryz.prog 30 #[.slice a ms.length c, .slice a' ms.length c'] w fun e w' => e = .returned (.bool true) ∧ Below w.heap.size w w' := by
  by_cases h0 : 0 < ms.length
  · obtain ⟨rfl, hg, hc⟩ := h.r h0
    obtain ⟨rfl, hg', hc'⟩ := h'.r h0
    have HC := hide hc
    have HC' := hide hc'
    have HB := hide h.b
    have HB' := hide h'.b
    have HI := hide hI
    have HL := hide hl
    have HG := hide (And.intro hg hg')
    clear hc hc' h h' hI hl hg hg' h0
    generalize hm : ms.length = m at *
    clear hm
    go_enter Tryz.func30, Tryz.ntmps30
    go_wp2
    go_loopw [5] (fun i wr => ∃ (k : Nat), k ≤ m ∧ i = .int .i64 k ∧ Below w.heap.size w wr) (fun i _ => m - (intOf i).toNat)
    case atStart => exact ⟨0, Nat.zero_le _, rfl, Below.refl _ _⟩
    case round =>
      obtain ⟨k, hk, rfl, N⟩ := hrel
      by_cases hlt : k < m
      · have t0 : (k : Int) < (m : Int) := by omega
        have hm : m ≤ 1048576 := HL.out
        have EQ := fun n => hide (eqMessage_same (wr.drewN n) (P k) (P' k) (ms.getD k msg0) ((HB.out k hlt).up (below_drewN N n)) ((HB'.out k hlt).up (below_drewN N n)) (HI.out k hlt))
        have RA : wr.rangeAt g (k * 13) (mgV (P k) (ms.getD k msg0)).toList := fun j u hj => (World.cell?_of_block (a := ⟨g, k * 13 + j, none⟩) (N.block g HG.out.1)).trans (HC.out k hlt j u hj)
        have RB : wr.rangeAt g' (k * 13) (mgV (P' k) (ms.getD k msg0)).toList := fun j u hj => (World.cell?_of_block (a := ⟨g', k * 13 + j, none⟩) (N.block g' HG.out.2)).trans (HC'.out k hlt j u hj)
        generalize ms.getD k msg0 = x at *
        generalize P k = p at *
        generalize P' k = q at *
        have RA : wr.rangeAt g (k * 13) [.int .i64 x.k, .int .i64 x.v, .slice p.a2 x.r.length p.c2, .slice p.a3 x.s.length p.c3, .string ⟨⟨x.ho⟩⟩, .slice p.a5 x.pr.length p.c5, .slice p.a6 x.ti.length p.c6, .int .i64 x.ag, .int .i64 x.ea, .slice p.a9 x.bi.length p.c9, .bool x.rs, .slice p.a11 x.ce.length p.c11, .slice p.a12 x.pf.length p.c12] := RA
        have RB : wr.rangeAt g' (k * 13) [.int .i64 x.k, .int .i64 x.v, .slice q.a2 x.r.length q.c2, .slice q.a3 x.s.length q.c3, .string ⟨⟨x.ho⟩⟩, .slice q.a5 x.pr.length q.c5, .slice q.a6 x.ti.length q.c6, .int .i64 x.ag, .int .i64 x.ea, .slice q.a9 x.bi.length q.c9, .bool x.rs, .slice q.a11 x.ce.length q.c11, .slice q.a12 x.pf.length q.c12] := RB
        have c0 : wr.cell? ⟨g, k * 13, none⟩ = some _ := RA 0 _ rfl
        have c1 : wr.cell? ⟨g, k * 13 + 1, none⟩ = some _ := RA 1 _ rfl
        have c2 : wr.cell? ⟨g, k * 13 + 2, none⟩ = some _ := RA 2 _ rfl
        have c3 : wr.cell? ⟨g, k * 13 + 3, none⟩ = some _ := RA 3 _ rfl
        have c4 : wr.cell? ⟨g, k * 13 + 4, none⟩ = some _ := RA 4 _ rfl
        have c5 : wr.cell? ⟨g, k * 13 + 5, none⟩ = some _ := RA 5 _ rfl
        have c6 : wr.cell? ⟨g, k * 13 + 6, none⟩ = some _ := RA 6 _ rfl
        have c7 : wr.cell? ⟨g, k * 13 + 7, none⟩ = some _ := RA 7 _ rfl
        have c8 : wr.cell? ⟨g, k * 13 + 8, none⟩ = some _ := RA 8 _ rfl
        have c9 : wr.cell? ⟨g, k * 13 + 9, none⟩ = some _ := RA 9 _ rfl
        have c10 : wr.cell? ⟨g, k * 13 + 10, none⟩ = some _ := RA 10 _ rfl
        have c11 : wr.cell? ⟨g, k * 13 + 11, none⟩ = some _ := RA 11 _ rfl
        have c12 : wr.cell? ⟨g, k * 13 + 12, none⟩ = some _ := RA 12 _ rfl
        have d0 : wr.cell? ⟨g', k * 13, none⟩ = some _ := RB 0 _ rfl
        have d1 : wr.cell? ⟨g', k * 13 + 1, none⟩ = some _ := RB 1 _ rfl
        have d2 : wr.cell? ⟨g', k * 13 + 2, none⟩ = some _ := RB 2 _ rfl
        have d3 : wr.cell? ⟨g', k * 13 + 3, none⟩ = some _ := RB 3 _ rfl
        have d4 : wr.cell? ⟨g', k * 13 + 4, none⟩ = some _ := RB 4 _ rfl
        have d5 : wr.cell? ⟨g', k * 13 + 5, none⟩ = some _ := RB 5 _ rfl
        have d6 : wr.cell? ⟨g', k * 13 + 6, none⟩ = some _ := RB 6 _ rfl
        have d7 : wr.cell? ⟨g', k * 13 + 7, none⟩ = some _ := RB 7 _ rfl
        have d8 : wr.cell? ⟨g', k * 13 + 8, none⟩ = some _ := RB 8 _ rfl
        have d9 : wr.cell? ⟨g', k * 13 + 9, none⟩ = some _ := RB 9 _ rfl
        have d10 : wr.cell? ⟨g', k * 13 + 10, none⟩ = some _ := RB 10 _ rfl
        have d11 : wr.cell? ⟨g', k * 13 + 11, none⟩ = some _ := RB 11 _ rfl
        have d12 : wr.cell? ⟨g', k * 13 + 12, none⟩ = some _ := RB 12 _ rfl
        have NN := hide N
        clear N RA RB
        go_wp2
        go_region_with (go_at_call 25; refine (EQ _).out.mono ?_; rintro e w3 ⟨rfl, n3⟩)
        all_goals
          have N3 := hide (show Below w.heap.size w w3 from nxt (below_drewN NN.out _) n3)
          clear n3
          go_wp2
          go_roundw
          case rel => exact ⟨k + 1, by omega, by go_num, N3.out⟩
          case measure => simp [intOf]; omega
      · obtain rfl : k = m := by omega
        go_wp2
        go_ret
        exact ⟨rfl, N⟩
  · obtain rfl : ms = [] := List.eq_nil_of_length_eq_zero (by omega)
    clear h h' hl hI h0
    go_enter Tryz.func30, Tryz.ntmps30
    go_wp2
    go_loopw [5] (fun i wr => i = .int .i64 0 ∧ wr = w) (fun _ _ => 0)
    case atStart => exact ⟨rfl, rfl⟩
    case round =>
      obtain ⟨rfl, rfl⟩ := hrel
      go_wp2
      go_ret
      exact ⟨rfl, Below.refl _ _⟩
theorem eqMessageList_same (w : World) (t : Int) (q q' : Nat) (a a' : Option Addr) (c c' : Nat) (ms : List Msg) (P P' : Nat → MQ) (h : RdMs w q a ms P) (h' : RdMs w q' a' ms P') (hI : ∀ i, i < ms.length → IsM (ms.getD i msg0)) (hl : ms.length ≤ 1048576)
    (g g' : Nat) (x x' : Option Addr) (y y' : Nat) (ys : List Int) (hx : Rd w g x .u8 ys) (hx' : Rd w g' x' .u8 ys) (hy : ys.length ≤ 1048576) :
    Calls Tryz.prog 15 #[.agg #[.int .i64 t, .slice a ms.length c, .slice x ys.length y], .agg #[.int .i64 t, .slice a' ms.length c', .slice x' ys.length y']] w fun e w' => e = .returned (.bool true) ∧ Below w.heap.size w w' := by
  have n1 : Below w.heap.size w (w.alloc (.cells #[.int .i64 t, .slice a ms.length c, .slice x ys.length y] 38)) := (Below.refl _ _).alloc (Nat.le_refl _) _
  have n2 : Below w.heap.size w ((w.alloc (.cells #[.int .i64 t, .slice a ms.length c, .slice x ys.length y] 38)).alloc (.cells #[.int .i64 t, .slice a' ms.length c', .slice x' ys.length y'] 38)) := n1.alloc (by simp) _
  have z1 : (w.alloc (.cells #[.int .i64 t, .slice a ms.length c, .slice x ys.length y] 38)).heap.size = w.heap.size + 1 := by simp
  have T1 := RwC.new w [.int .i64 t, .slice a ms.length c, .slice x ys.length y] 38
  have T2 : RwC ((w.alloc (.cells #[.int .i64 t, .slice a ms.length c, .slice x ys.length y] 38)).alloc (.cells #[.int .i64 t, .slice a' ms.length c', .slice x' ys.length y'] 38)) (w.heap.size + 1) [.int .i64 t, .slice a' ms.length c', .slice x' ys.length y'] 38 := by
    have := RwC.new (w.alloc (.cells #[.int .i64 t, .slice a ms.length c, .slice x ys.length y] 38)) [.int .i64 t, .slice a' ms.length c', .slice x' ys.length y'] 38
    rw [z1] at this
    exact this
  have T1' := T1.push (.cells #[.int .i64 t, .slice a' ms.length c', .slice x' ys.length y'] 38)
  have EQ := hide (eqMessageS_same _ q q' a a' c c' ms P P' (h.up n2) (h'.up n2) hI hl)
  have EB := hide fun W (m : Below w.heap.size w W) => eqByteS_same W g g' x x' y y' ys (hx.up m) (hx'.up m) hy
  clear h h' hl hI z1 T1 n1 hx hx'
  generalize ms.length = m at *
  generalize ys.length = l at *
  go_enter Tryz.func15, Tryz.ntmps15
  go_wp2_with fail
  generalize (w.alloc (.cells #[.int .i64 t, .slice a m c, .slice x l y] 38)).alloc (.cells #[.int .i64 t, .slice a' m c', .slice x' l y'] 38) = W2 at *
  refine EQ.out.mono ?_
  rintro e w3 ⟨rfl, n3⟩
  have A3 := T1'.up n3
  have B3 := T2.up n3
  have N3 := nxt n2 n3
  have s0 : w3.cell? ⟨w.heap.size, 2, none⟩ = some (.slice x l y) := A3.cell 2
  have s1 : w3.cell? ⟨w.heap.size + 1, 2, none⟩ = some (.slice x' l y') := B3.cell 2
  clear A3 B3 T1' T2 n3 n2 EQ
  go_wp2_with fail
  refine (EB.out w3 N3).mono ?_
  rintro e w4 ⟨rfl, n4⟩
  go_wp2
  go_ret
  exact ⟨rfl, nxt N3 n4⟩
end Go.Proofs.YtdnkgmlidhepbaaGreat
