import Derived.Test.YtdnkgmlidhepbaaGreatGC31
import Derived.Test.YtdnkgmlidhepbaaGreatGC6
namespace Go.Proofs.YtdnkgmlidhepbaaGreat
open Go Go.RowKit
theorem iMl : (Tryz.prog.info? 38).map (·.size) = some 3 := by kernel_rfl
theorem rowMl : ∃ d, Tryz.prog.underlying 38 = some d ∧ d.isRow = true := ⟨_, Tryz.underlying38, rfl⟩
theorem MRow.base {w : World} {B C : Nat} {v : Value} {ms : List Msg} {es : List El} (R : MRow w B v ms es) (hC : C ≤ B) : MRow w C v ms es :=
  ⟨⟨R.o.1, by
      rcases R.o.2 with h' | ⟨g, cap, cur, e1, hbg, h3⟩
      · exact .inl h'
      · exact .inr ⟨g, cap, cur, e1, by omega, h3⟩⟩, R.l, R.b, fun i hi => ⟨Nat.le_trans hC (R.h i hi).1, (R.h i hi).2⟩, R.d, R.t⟩
theorem MRow.up {w w' : World} {B : Nat} {v : Value} {ms : List Msg} {es : List El} (h : MRow w B v ms es) (n : Below w.heap.size w w') : MRow w' B v ms es := h.of n.size fun k hk _ => n.block k hk
theorem MRow.onl {w w' : World} {B q : Nat} {v : Value} {ms : List Msg} {es : List El} (h : MRow w B v ms es) (O : Only q w w') (hq : q < B) : MRow w' B v ms es := h.of (Nat.le_of_eq O.size.symm) fun k _ hk => O.block k (by omega)
theorem MRow.lim {w : World} {B : Nat} {v : Value} {ms : List Msg} {es : List El} (h : MRow w B v ms es) : ∀ g, v.ownBlock = some g → g < w.heap.size := fun g hg => (World.ownsRow.lt h.o g hg).2
def RstP (w : World) (v : Value) (ms : List Msg) (es : List El) (x : Value) (ys : List Int) : Prop := ∃ H, RowB w H x ys ∧ (∀ i, i < ms.length → (es.getD i el0).F 7 ≤ H) ∧ ∀ g, v.ownBlock = some g → g < H
def CcP (w : World) (xs : List Int) (e : Ending) (w' : World) : Prop := (∃ v es x, e = .returned (.agg #[.int .i64 (cmC xs), v, x]) ∧ MRow w' w.heap.size v (cmL xs) es ∧ RowB w' w.heap.size x (cmR xs) ∧ RstP w' v (cmL xs) es x (cmR xs)) ∧ Below w.heap.size w w'
theorem wpList_bsT {P : Program} (w : World) {ops : Array Oper} {rest : List Oper} {o : Oper} {a : Act} {Q : Exit → Act → World → Prop} (hgd : o.guard = none) (t : TypeId) (n : Nat) (fs : Array (Nat × Operand)) (ho : o.op = .buildSlice t n fs) (vs : Array (Nat × Value)) (hv : fs.map (fun x => (x.1, a.eval x.2)) = vs)
    (v' : Value) (w' : World) (hr : (Instr.buildSlice t n vs).run P w = .ok v' w') (h : wpList P ops Q rest (a.put o.dst v') w') : wpList P ops Q (o :: rest) a w :=
  wpList_plain hgd fun _ hK => by
    unfold Oper.wp execOp
    simp only [ho, hv]
    rw [Sem.run_bind, hr]
    exact hK _ _ h
set_option maxRecDepth 100000 in
set_option maxHeartbeats 8000000 in
theorem implCM_any (w : World) (g : Nat) (a : Option Addr) (c : Nat) (xs : List Int) (hr : Rd w g a .u8 xs) (hb : Byt xs) (hz : a = none → c = 0) (hc : xs.length ≤ c) (hx : xs.length ≤ 1048576) :
    Calls Tryz.prog 14 #[.slice a xs.length c] w fun e w' => CcP w xs e w' := by
  obtain ⟨d3, hd3, hrow3⟩ := rowMl
  obtain ⟨d13, hd13, hrow13⟩ := rowM
  have n0 : Below w.heap.size w (w.alloc (.cells #[.int .i64 0, .slice none 0 0, .slice none 0 0] 38)) := (Below.refl _ _).alloc (Nat.le_refl _) _
  have U0 : RwC (w.alloc (.cells #[.int .i64 0, .slice none 0 0, .slice none 0 0] 38)) w.heap.size [.int .i64 0, .slice none 0 0, .slice none 0 0] 38 := RwC.new w _ _
  have DC := hide (fun (W : World) (mq : Nat) (i : Nat) (hm : W.heap[mq]? = some (.map regE 9)) (n : Below w.heap.size w W) => decode_any W mq g a c xs (i : Int) hm (hr.up n) hb hz hc hx)
  have HR := hide hr
  have HB := hide hb
  have HZ := hide hz
  have CS := hide (CM.start xs)
  clear hr hb hz
  go_enter Tryz.func14, Tryz.ntmps14
  go_upto_region 1 with fail
  generalize w.alloc (.cells #[.int .i64 0, .slice none 0 0, .slice none 0 0] 38) = W at *
  go_wp2_with fail
  refine (messageKinds_any W).mono ?_
  rintro e W1 ⟨rfl, hm, n1⟩
  have U1 := U0.up n1
  have N1 := nxt n0 n1
  obtain ⟨mq, hmq⟩ : ∃ g, W.heap.size = g := ⟨_, rfl⟩
  rw [hmq] at hm ⊢
  have wm : w.heap.size < mq := by rw [← hmq]; exact U0.lt
  have n2 : Below W1.heap.size W1 (W1.alloc (.cells #[.int .i64 0, .slice none 0 0, .slice none 0 0] 38)) := (Below.refl _ _).alloc (Nat.le_refl _) _
  have T2 : RwC (W1.alloc (.cells #[.int .i64 0, .slice none 0 0, .slice none 0 0] 38)) W1.heap.size [.int .i64 0, .slice none 0 0, .slice none 0 0] 38 := RwC.new W1 _ _
  have ml : mq < W1.heap.size := (Array.getElem?_eq_some_iff.1 hm).1
  have M2 : (W1.alloc (.cells #[.int .i64 0, .slice none 0 0, .slice none 0 0] 38)).heap[mq]? = some (.map regE 9) := (n2.block mq ml).trans hm
  have U2 := U1.up n2
  have N2 := nxt N1 n2
  clear U0 U1 n0 n1 hmq hm N1
  go_upto_region 3 with fail
  generalize W1.alloc (.cells #[.int .i64 0, .slice none 0 0, .slice none 0 0] 38) = W2 at *
  obtain ⟨b4, hb4⟩ : ∃ g, W1.heap.size = g := ⟨_, rfl⟩
  rw [hb4] at T2 ml ⊢
  have l4 := T2.lt
  obtain ⟨B, hB⟩ : ∃ g, W2.heap.size = g := ⟨_, rfl⟩
  have sB : B ≤ W2.heap.size := by omega
  have b4B : b4 < B := by omega
  clear n2 hb4 l4 hB
  have R2 := hide (MRow.nil W2 B)
  have H2 := hide T2
  have HU := hide U2
  have HM := hide M2
  have HN := hide N2
  clear T2 U2 M2 N2
  go_wp2_with fail
  go_loopw [5] (fun j wr => ∃ (i : Nat) (v : Value) (ms : List Msg) (es : List El), j = .int .i64 (i : Int) ∧ Hid (CM xs i ms) ∧ Hid (RwC wr b4 [.int .i64 0, v, .slice none 0 0] 38) ∧ Hid (MRow wr B v ms es) ∧ Hid (RwC wr w.heap.size [.int .i64 0, .slice none 0 0, .slice none 0 0] 38) ∧ Hid (wr.heap[mq]? = some (.map regE 9)) ∧ Hid (Below w.heap.size w wr) ∧ B ≤ wr.heap.size) (fun j _ => xs.length + 4 - (intOf j).toNat)
  case atStart => exact ⟨0, _, [], [], rfl, CS, H2, R2, HU, HM, HN, sB⟩
  case round =>
    obtain ⟨i, v, ms, es, rfl, hC, hT, hR, hU, hM, hN, hS⟩ := hrel
    clear CS H2 R2 HU HM HN sB
    have iL := hC.out.le
    have nL := hC.out.n
    obtain ⟨cd, ecd⟩ : ∃ x, Hid (dmC xs (i : Int) = x) := ⟨_, rfl⟩
    obtain ⟨m, emm⟩ : ∃ x, Hid (dmR xs (i : Int) = x) := ⟨_, rfl⟩
    obtain ⟨nx, enx⟩ : ∃ x, Hid (dmE xs (i : Int) = x) := ⟨_, rfl⟩
    have D := hide (DC.out wr mq i hM.out hN.out)
    go_wp2_with fail
    refine D.out.mono ?_
    rintro e Y1 ⟨⟨p, bs, F, rfl, hF, hA⟩, n1⟩
    rw [ecd.out, emm.out, enx.out]
    rw [emm.out] at hA
    have hAt := hA.trim
    have hA0 : B ≤ min (F 0) Y1.heap.size ∧ wr.heap.size ≤ min (F 0) Y1.heap.size := by
      have := n1.size
      constructor <;> (refine Nat.le_min.2 ⟨?_, ?_⟩ <;> omega)
    have hA7 : min (F 7) Y1.heap.size ≤ Y1.heap.size := Nat.min_le_right _ _
    obtain ⟨G, hG⟩ : ∃ G, Hid ((fun k => min (F k) Y1.heap.size) = G) := ⟨_, rfl⟩
    have hA' : Hid (AnsC Y1 G p m bs) := by show AnsC _ _ _ _ _; rw [← hG.out]; exact hAt.c
    have g0 : B ≤ G 0 ∧ wr.heap.size ≤ G 0 := by rw [← hG.out]; exact hA0
    have g7 : G 7 ≤ Y1.heap.size := by rw [← hG.out]; exact hA7
    clear hA hAt hA0 hA7 hG hF D
    have T1 := hide (hT.out.up n1)
    have R1 := hide (hR.out.up n1)
    have U1 := hide (hU.out.up n1)
    have M1 : Hid (Y1.heap[mq]? = some (.map regE 9)) := (n1.block mq (Array.getElem?_eq_some_iff.1 hM.out).1).trans hM.out
    have N1 := hide (nxt hN.out n1)
    have s1 := n1.size
    have vlim := hide hR.out.lim
    have elim := hide hR.out.t
    clear hT hR hU hM hN n1
    have nA : Below Y1.heap.size Y1 (Y1.alloc (.cells #[.int .i64 0, .int .i64 0, .int .i64 0, .slice none 0 0, .slice none 0 0, .string ⟨#[]⟩, .slice none 0 0, .slice none 0 0, .int .i64 0, .int .i64 0, .slice none 0 0, .bool false, .slice none 0 0, .slice none 0 0, .int .i64 0] 28)) := (Below.refl _ _).alloc (Nat.le_refl _) _
    have ZA : RwC (Y1.alloc (.cells #[.int .i64 0, .int .i64 0, .int .i64 0, .slice none 0 0, .slice none 0 0, .string ⟨#[]⟩, .slice none 0 0, .slice none 0 0, .int .i64 0, .int .i64 0, .slice none 0 0, .bool false, .slice none 0 0, .slice none 0 0, .int .i64 0] 28)) Y1.heap.size [.int .i64 0, .int .i64 0, .int .i64 0, .slice none 0 0, .slice none 0 0, .string ⟨#[]⟩, .slice none 0 0, .slice none 0 0, .int .i64 0, .int .i64 0, .slice none 0 0, .bool false, .slice none 0 0, .slice none 0 0, .int .i64 0] 28 := RwC.new Y1 _ _
    have OQ := only_setG (Y1.alloc (.cells #[.int .i64 0, .int .i64 0, .int .i64 0, .slice none 0 0, .slice none 0 0, .string ⟨#[]⟩, .slice none 0 0, .slice none 0 0, .int .i64 0, .int .i64 0, .slice none 0 0, .bool false, .slice none 0 0, .slice none 0 0, .int .i64 0] 28)) Y1.heap.size [.int .i64 cd, .int .i64 m.k, .int .i64 m.v, .slice p.a2 m.r.length p.c2, .slice p.a3 m.s.length p.c3, .string ⟨⟨m.ho⟩⟩, .slice p.a5 m.pr.length p.c5, .slice p.a6 m.ti.length p.c6, .int .i64 m.ag, .int .i64 m.ea, .slice p.a9 m.bi.length p.c9, .bool m.rs, .slice p.a11 m.ce.length p.c11, .slice p.a12 m.pf.length p.c12, .int .i64 nx] 0
    have BX : RwC ((Y1.alloc (.cells #[.int .i64 0, .int .i64 0, .int .i64 0, .slice none 0 0, .slice none 0 0, .string ⟨#[]⟩, .slice none 0 0, .slice none 0 0, .int .i64 0, .int .i64 0, .slice none 0 0, .bool false, .slice none 0 0, .slice none 0 0, .int .i64 0] 28)).setCells Y1.heap.size 0 [.int .i64 cd, .int .i64 m.k, .int .i64 m.v, .slice p.a2 m.r.length p.c2, .slice p.a3 m.s.length p.c3, .string ⟨⟨m.ho⟩⟩, .slice p.a5 m.pr.length p.c5, .slice p.a6 m.ti.length p.c6, .int .i64 m.ag, .int .i64 m.ea, .slice p.a9 m.bi.length p.c9, .bool m.rs, .slice p.a11 m.ce.length p.c11, .slice p.a12 m.pf.length p.c12, .int .i64 nx]) Y1.heap.size [.int .i64 cd, .int .i64 m.k, .int .i64 m.v, .slice p.a2 m.r.length p.c2, .slice p.a3 m.s.length p.c3, .string ⟨⟨m.ho⟩⟩, .slice p.a5 m.pr.length p.c5, .slice p.a6 m.ti.length p.c6, .int .i64 m.ag, .int .i64 m.ea, .slice p.a9 m.bi.length p.c9, .bool m.rs, .slice p.a11 m.ce.length p.c11, .slice p.a12 m.pf.length p.c12, .int .i64 nx] 28 := ZA.put rfl
    have nS : Below Y1.heap.size Y1 ((Y1.alloc (.cells #[.int .i64 0, .int .i64 0, .int .i64 0, .slice none 0 0, .slice none 0 0, .string ⟨#[]⟩, .slice none 0 0, .slice none 0 0, .int .i64 0, .int .i64 0, .slice none 0 0, .bool false, .slice none 0 0, .slice none 0 0, .int .i64 0] 28)).setCells Y1.heap.size 0 [.int .i64 cd, .int .i64 m.k, .int .i64 m.v, .slice p.a2 m.r.length p.c2, .slice p.a3 m.s.length p.c3, .string ⟨⟨m.ho⟩⟩, .slice p.a5 m.pr.length p.c5, .slice p.a6 m.ti.length p.c6, .int .i64 m.ag, .int .i64 m.ea, .slice p.a9 m.bi.length p.c9, .bool m.rs, .slice p.a11 m.ce.length p.c11, .slice p.a12 m.pf.length p.c12, .int .i64 nx]) := nA.trans (OQ.below (Nat.le_refl _))
    have THR := ZA.thereG
    have ON : (#[.int .i64 cd, .int .i64 m.k, .int .i64 m.v, .slice p.a2 m.r.length p.c2, .slice p.a3 m.s.length p.c3, .string ⟨⟨m.ho⟩⟩, .slice p.a5 m.pr.length p.c5, .slice p.a6 m.ti.length p.c6, .int .i64 m.ag, .int .i64 m.ea, .slice p.a9 m.bi.length p.c9, .bool m.rs, .slice p.a11 m.ce.length p.c11, .slice p.a12 m.pf.length p.c12, .int .i64 nx] : Array Value).all (·.oneCell') = true := one15m cd p m nx
    clear nA ZA OQ
    unfold rsV
    go_upto_region 5 with (refine wpList_store_mid rfl 28 (.tmp 6) (.tmp 11) rfl Y1.heap.size 0 #[.int .i64 cd, .int .i64 m.k, .int .i64 m.v, .slice p.a2 m.r.length p.c2, .slice p.a3 m.s.length p.c3, .string ⟨⟨m.ho⟩⟩, .slice p.a5 m.pr.length p.c5, .slice p.a6 m.ti.length p.c6, .int .i64 m.ag, .int .i64 m.ea, .slice p.a9 m.bi.length p.c9, .bool m.rs, .slice p.a11 m.ce.length p.c11, .slice p.a12 m.pf.length p.c12, .int .i64 nx] rfl rfl THR iMR ON ?_)
    clear THR ON
    generalize (Y1.alloc (.cells #[.int .i64 0, .int .i64 0, .int .i64 0, .slice none 0 0, .slice none 0 0, .string ⟨#[]⟩, .slice none 0 0, .slice none 0 0, .int .i64 0, .int .i64 0, .slice none 0 0, .bool false, .slice none 0 0, .slice none 0 0, .int .i64 0] 28)).setCells Y1.heap.size 0 [.int .i64 cd, .int .i64 m.k, .int .i64 m.v, .slice p.a2 m.r.length p.c2, .slice p.a3 m.s.length p.c3, .string ⟨⟨m.ho⟩⟩, .slice p.a5 m.pr.length p.c5, .slice p.a6 m.ti.length p.c6, .int .i64 m.ag, .int .i64 m.ea, .slice p.a9 m.bi.length p.c9, .bool m.rs, .slice p.a11 m.ce.length p.c11, .slice p.a12 m.pf.length p.c12, .int .i64 nx] = Y2 at *
    have T2 := hide (T1.out.up nS)
    have R2 := hide (R1.out.up nS)
    have U2 := hide (U1.out.up nS)
    have M2 : Hid (Y2.heap[mq]? = some (.map regE 9)) := (nS.block mq (Array.getElem?_eq_some_iff.1 M1.out).1).trans M1.out
    have N2 := hide (nxt N1.out nS)
    have A2 := hide (hA'.out.up nS)
    have s2 := nS.size
    clear T1 R1 U1 M1 N1 hA' nS
    obtain ⟨b6, h6⟩ : ∃ g, Y1.heap.size = g := ⟨_, rfl⟩
    rw [h6] at BX ⊢
    have l6 := BX.lt
    have k0 : Y2.cell? ⟨b6, 0, none⟩ = some (.int .i64 cd) := BX.cell 0
    have k14 : Hid (Y2.cell? ⟨b6, 14, none⟩ = some (.int .i64 nx)) := BX.cell 14
    have RM := hide (BX.partD 1 [.int .i64 m.k, .int .i64 m.v, .slice p.a2 m.r.length p.c2, .slice p.a3 m.s.length p.c3, .string ⟨⟨m.ho⟩⟩, .slice p.a5 m.pr.length p.c5, .slice p.a6 m.ti.length p.c6, .int .i64 m.ag, .int .i64 m.ea, .slice p.a9 m.bi.length p.c9, .bool m.rs, .slice p.a11 m.ce.length p.c11, .slice p.a12 m.pf.length p.c12] rfl)
    have x6 : G 7 ≤ b6 ∧ b6 < Y2.heap.size ∧ wr.heap.size ≤ b6 := by omega
    clear BX h6 g7 s1 s2 l6
    have rng := dmC_rng xs (i : Int)
    rw [ecd.out] at rng
    by_cases c0 : cd = 0
    · obtain ⟨j, ej, hj4, hC'⟩ := hC.out.next HB.out (by rw [ecd.out]; exact c0)
      rw [emm.out] at hC'
      obtain rfl : nx = (j : Int) := by rw [← enx.out]; exact ej
      have CN := hide hC'
      subst c0
      obtain ⟨v', Y3, ap, R3, kp3, N3, -⟩ := R2.out.app m ⟨p, bs, G⟩ (by omega) A2.out g0.1 (by show G 7 ≤ _; omega) (fun k hk => Nat.le_trans (elim.out k hk) g0.2) (fun q hq => .inl (Nat.lt_of_lt_of_le (vlim.out q hq) g0.2)) (by omega)
      obtain ⟨va, vc, hv', -⟩ := R3.slice
      obtain ⟨nm, hnm⟩ : ∃ n, (ms ++ [m]).length = n := ⟨_, rfl⟩
      rw [hnm] at hv'
      subst hv'
      have T3 : RwC Y3 b4 [.int .i64 0, v, .slice none 0 0] 38 := (N3.block b4 b4B).trans T2.out
      have O3 := Only.setCell Y3 b4 1 (.slice va nm vc)
      have TF : Hid (RwC (Y3.setCell ⟨b4, 1, none⟩ (.slice va nm vc)) b4 [.int .i64 0, .slice va nm vc, .slice none 0 0] 38) := T3.set 1 _
      have RF := hide (R3.onl O3 b4B)
      have UF : Hid (RwC (Y3.setCell ⟨b4, 1, none⟩ (.slice va nm vc)) w.heap.size [.int .i64 0, .slice none 0 0, .slice none 0 0] 38) := (O3.block _ (by omega)).trans ((N3.block _ (by omega)).trans U2.out)
      have MF : Hid ((Y3.setCell ⟨b4, 1, none⟩ (.slice va nm vc)).heap[mq]? = some (.map regE 9)) := (O3.block _ (by omega)).trans ((N3.block _ (by omega)).trans M2.out)
      have NF : Hid (Below w.heap.size w (Y3.setCell ⟨b4, 1, none⟩ (.slice va nm vc))) := (N2.out.trans (N3.mono (by omega))).trans (O3.below (by omega))
      have SF : B ≤ (Y3.setCell ⟨b4, 1, none⟩ (.slice va nm vc)).heap.size := by rw [O3.size]; have := N3.size; omega
      have t1 : Y2.cell? ⟨b4, 1, none⟩ = some v := T2.out.cell 1
      have t3 : Y3.cell? ⟨b4, 1, none⟩ = some v := T3.cell 1
      have f3 := T3.free 1
      have K14 : Hid ((Y3.setCell ⟨b4, 1, none⟩ (.slice va nm vc)).cell? ⟨b6, 14, none⟩ = some (.int .i64 (j : Int))) := (World.cell?_of_block (a := ⟨b6, 14, none⟩) (O3.block b6 (by omega))).trans ((World.cell?_of_block (a := ⟨b6, 14, none⟩) (kp3 b6 (by omega) (fun e => by have := vlim.out b6 e; omega))).trans k14.out)
      have bs0 : (Instr.buildSlice 36 1 #[(0, .agg #[.int .i64 m.k, .int .i64 m.v, .slice p.a2 m.r.length p.c2, .slice p.a3 m.s.length p.c3, .string ⟨⟨m.ho⟩⟩, .slice p.a5 m.pr.length p.c5, .slice p.a6 m.ti.length p.c6, .int .i64 m.ag, .int .i64 m.ea, .slice p.a9 m.bi.length p.c9, .bool m.rs, .slice p.a11 m.ce.length p.c11, .slice p.a12 m.pf.length p.c12])]).run Tryz.prog Y2 = .ok (.slice (some ⟨Y2.heap.size, 0, none⟩) 1 1) (Y2.alloc (.cells #[.int .i64 m.k, .int .i64 m.v, .slice p.a2 m.r.length p.c2, .slice p.a3 m.s.length p.c3, .string ⟨⟨m.ho⟩⟩, .slice p.a5 m.pr.length p.c5, .slice p.a6 m.ti.length p.c6, .int .i64 m.ag, .int .i64 m.ea, .slice p.a9 m.bi.length p.c9, .bool m.rs, .slice p.a11 m.ce.length p.c11, .slice p.a12 m.pf.length p.c12] 26)) := by kernel_rfl
      have ap' : (Builtin.append_ #[36, 36] 36 #[v, .slice (some ⟨Y2.heap.size, 0, none⟩) 1 1]).run Tryz.prog (Y2.alloc (.cells #[.int .i64 m.k, .int .i64 m.v, .slice p.a2 m.r.length p.c2, .slice p.a3 m.s.length p.c3, .string ⟨⟨m.ho⟩⟩, .slice p.a5 m.pr.length p.c5, .slice p.a6 m.ti.length p.c6, .int .i64 m.ag, .int .i64 m.ea, .slice p.a9 m.bi.length p.c9, .bool m.rs, .slice p.a11 m.ce.length p.c11, .slice p.a12 m.pf.length p.c12] 26)) = .ok (.slice va nm vc) Y3 := ap
      have RM' := RM.out
      have xj : j ≤ xs.length := CN.out.le
      clear T2 R2 U2 M2 N2 A2 T3 O3 R3 kp3 N3 ap k14 RM hC hC' vlim elim hnm g0 x6 rng
      go_upto_region 10 with (first
        | (refine wpList_load_mid rfl 26 (.tmp 22) rfl b6 1 rfl [.int .i64 m.k, .int .i64 m.v, .slice p.a2 m.r.length p.c2, .slice p.a3 m.s.length p.c3, .string ⟨⟨m.ho⟩⟩, .slice p.a5 m.pr.length p.c5, .slice p.a6 m.ti.length p.c6, .int .i64 m.ag, .int .i64 m.ea, .slice p.a9 m.bi.length p.c9, .bool m.rs, .slice p.a11 m.ce.length p.c11, .slice p.a12 m.pf.length p.c12] d13 RM' hd13 hrow13 iM ?_)
        | (refine wpList_bsT _ rfl 36 1 #[(0, .tmp 23)] rfl #[(0, .agg #[.int .i64 m.k, .int .i64 m.v, .slice p.a2 m.r.length p.c2, .slice p.a3 m.s.length p.c3, .string ⟨⟨m.ho⟩⟩, .slice p.a5 m.pr.length p.c5, .slice p.a6 m.ti.length p.c6, .int .i64 m.ag, .int .i64 m.ea, .slice p.a9 m.bi.length p.c9, .bool m.rs, .slice p.a11 m.ce.length p.c11, .slice p.a12 m.pf.length p.c12])] rfl _ _ bs0 ?_)
        | (at_builtin; refine Lib.wpList_append_run _ rfl _ _ 36 36 rfl _ _ rfl rfl _ _ ap' ?_))
      generalize Y3.setCell ⟨b4, 1, none⟩ (.slice va nm vc) = Y4 at *
      have k14 := K14.out
      clear bs0 ap' RM' t1 t3 f3 k0 K14
      go_wp2
      go_roundw
      case rel => exact ⟨j, _, ms ++ [m], _, rfl, CN, TF, RF, UF, MF, NF, SF⟩
      case measure => simp [intOf]; omega
    · obtain ⟨e1, e2'⟩ := hC.out.stop (by rw [ecd.out]; exact c0)
      subst e1
      have e2 := hide e2'
      clear e2'
      have u0 : (cd == 0) = false := beq_eq_false_iff_ne.2 c0
      obtain ⟨va, vc, hv, -⟩ := R2.out.slice
      subst hv
      obtain ⟨nm, hnm⟩ : ∃ n, Hid ((cmL xs).length = n) := ⟨_, rfl⟩
      rw [hnm.out] at T2 R2 vlim
      have t0 : Y2.cell? ⟨b4, 0, none⟩ = some (.int .i64 0) := T2.out.cell 0
      have t1 : Y2.cell? ⟨b4, 1, none⟩ = some (.slice va nm vc) := T2.out.cell 1
      have t2 : Y2.cell? ⟨b4, 2, none⟩ = some (.slice none 0 0) := T2.out.cell 2
      by_cases c1 : cd = 1
      · have eC : Hid (cmC xs = 0) := by show _ = _; unfold cmC; rw [← e2.out, ecd.out, if_pos c1]
        obtain ⟨ys, ey⟩ : ∃ ys, xs.drop i = ys := ⟨_, rfl⟩
        have eR : Hid (cmR xs = ys) := by show _ = _; unfold cmR; rw [← e2.out, ecd.out, if_pos c1]; exact ey
        subst c1
        have ly : ys.length = xs.length - i := by rw [← ey, List.length_drop]
        have SLC := sl_low Y2 a xs.length c i ys.length iL hc ly
        have RY : Rd Y2 g (slA a i c) .u8 ys := by rw [← ey]; exact (HR.out.up N2.out).slD hc i
        have CL := hide (cloneB_any Y2 ⟨g, slA a i c, c - i, ys⟩ (lstR_of RY (fun h => slA_none HZ.out h) (by show ys.length ≤ _; omega)))
        clear ly ey RY u0
        generalize slA a i c = aR at *
        generalize c - i = cR at *
        clear k14 RM hC A2 M2 t0 t1 t2
        go_wp2_with (refine wpList_slT _ rfl 22 (.tmp 31) (some (.tmp 32)) none rfl (.slice a xs.length c) (some (.int .i64 (i : Int))) none rfl rfl rfl _ SLC ?_)
        refine CL.out.mono ?_
        rintro e Y3 ⟨⟨x, rfl, RX⟩, n3⟩
        obtain ⟨xa, xc, gx, rfl, -, -, -, -⟩ := RX.rd
        obtain ⟨ny, hny⟩ : ∃ n, Hid (ys.length = n) := ⟨_, rfl⟩
        have RX : RowB Y3 Y2.heap.size (.slice xa ys.length xc) ys := RX
        have T3 := T2.out.up n3
        have R3 := R2.out.up n3
        have U3 := U2.out.up n3
        have N3 := nxt N2.out n3
        have vl := R2.out.lim
        have el := R2.out.t
        have s2 : B ≤ Y2.heap.size := by omega
        rw [hny.out] at RX ⊢
        have O4 := Only.setCell Y3 b4 2 (.slice xa ny xc)
        have T4 : RwC (Y3.setCell ⟨b4, 2, none⟩ (.slice xa ny xc)) b4 [.int .i64 0, .slice va nm vc, .slice xa ny xc] 38 := T3.set 2 _
        have R4 := R3.onl O4 b4B
        have U4 : RwC (Y3.setCell ⟨b4, 2, none⟩ (.slice xa ny xc)) w.heap.size [.int .i64 0, .slice none 0 0, .slice none 0 0] 38 := (O4.block _ (by omega)).trans U3
        have N4 : Below w.heap.size w (Y3.setCell ⟨b4, 2, none⟩ (.slice xa ny xc)) := N3.trans (O4.below (by omega))
        have X4 : RowB (Y3.setCell ⟨b4, 2, none⟩ (.slice xa ny xc)) Y2.heap.size (.slice xa ny xc) ys := RX.only O4 (by omega)
        have q2 : Y3.cell? ⟨b4, 2, none⟩ = some (.slice none 0 0) := T3.cell 2
        have f2 := T3.free 2
        clear T2 R2 U2 N2 T3 R3 U3 N3 O4 RX n3 SLC CL k0
        go_upto_region 13 with fail
        clear q2 f2
        generalize Y3.setCell ⟨b4, 2, none⟩ (.slice xa ny xc) = Y4 at *
        have RG := T4.rangeG
        have THR := U4.thereG
        have OQ := only_setG Y4 w.heap.size [.int .i64 0, .slice va nm vc, .slice xa ny xc] 0
        have RR := World.rangeAt_setCells_same Y4 w.heap.size 0 [.int .i64 0, .slice va nm vc, .slice xa ny xc] THR
        have RES : Hid (CcP w xs (.returned (.agg #[.int .i64 0, .slice va nm vc, .slice xa ny xc])) (Y4.setCells w.heap.size 0 [.int .i64 0, .slice va nm vc, .slice xa ny xc])) := by
          show CcP _ _ _ _
          unfold CcP
          rw [eC.out, eR.out]
          have R5 := (R4.onl OQ (by omega)).base (show w.heap.size ≤ B by omega)
          have X5 := X4.only OQ (by omega)
          exact ⟨⟨.slice va nm vc, es, .slice xa ny xc, rfl, R5, X5.base (by omega), Y2.heap.size, X5, el, vl⟩, N4.trans (OQ.below (Nat.le_refl _))⟩
        have ON : (#[.int .i64 0, .slice va nm vc, .slice xa ny xc] : Array Value).all (·.oneCell') = true := one15 _ rfl
        clear OQ T4 U4 N4 R4 X4
        go_wp2_with (first
          | (refine wpList_load_mid rfl 38 (.tmp 4) rfl b4 0 rfl [.int .i64 0, .slice va nm vc, .slice xa ny xc] d3 RG hd3 hrow3 iMl ?_)
          | (refine wpList_store_mid rfl 38 (.tmp 2) (.tmp 36) rfl w.heap.size 0 #[.int .i64 0, .slice va nm vc, .slice xa ny xc] rfl rfl THR iMl ON ?_))
        exact bodyPost_ret (v := .agg #[.int .i64 0, .slice va nm vc, .slice xa ny xc]) (results_cellG Tryz.results14 _ _ w.heap.size _ d3 rfl RR hd3 hrow3 iMl) rfl RES.out
      · have u1 : (cd == 1) = false := beq_eq_false_iff_ne.2 c1
        have eC : Hid (cmC xs = cd) := by show _ = _; unfold cmC; rw [← e2.out, ecd.out, if_neg c1]
        have eR : Hid (cmR xs = []) := by show _ = _; unfold cmR; rw [← e2.out, ecd.out, if_neg c1]
        have O3 := Only.setCell Y2 b4 0 (.int .i64 cd)
        have T3 : RwC (Y2.setCell ⟨b4, 0, none⟩ (.int .i64 cd)) b4 [.int .i64 cd, .slice va nm vc, .slice none 0 0] 38 := T2.out.set 0 _
        have R3 := R2.out.onl O3 b4B
        have U3 : RwC (Y2.setCell ⟨b4, 0, none⟩ (.int .i64 cd)) w.heap.size [.int .i64 0, .slice none 0 0, .slice none 0 0] 38 := (O3.block _ (by omega)).trans U2.out
        have N3 : Below w.heap.size w (Y2.setCell ⟨b4, 0, none⟩ (.int .i64 cd)) := N2.out.trans (O3.below (by omega))
        have f0 := T2.out.free 0
        clear T2 R2 U2 M2 N2 A2 O3 k14 RM hC x6 g0 t1 t2
        go_upto_region 7 with fail
        clear t0 f0 k0
        generalize Y2.setCell ⟨b4, 0, none⟩ (.int .i64 cd) = Y3 at *
        have RG := T3.rangeG
        have THR := U3.thereG
        have OQ := only_setG Y3 w.heap.size [.int .i64 cd, .slice va nm vc, .slice none 0 0] 0
        have RR := World.rangeAt_setCells_same Y3 w.heap.size 0 [.int .i64 cd, .slice va nm vc, .slice none 0 0] THR
        have RES : Hid (CcP w xs (.returned (.agg #[.int .i64 cd, .slice va nm vc, .slice none 0 0])) (Y3.setCells w.heap.size 0 [.int .i64 cd, .slice va nm vc, .slice none 0 0])) := by
          show CcP _ _ _ _
          unfold CcP
          rw [eC.out, eR.out]
          have R4 := (R3.onl OQ (by omega)).base (show w.heap.size ≤ B by omega)
          exact ⟨⟨.slice va nm vc, es, .slice none 0 0, rfl, R4, RowB.nil _ _, Y3.heap.size, RowB.nil _ _, R3.t, R3.lim⟩, N3.trans (OQ.below (Nat.le_refl _))⟩
        have ON : (#[.int .i64 cd, .slice va nm vc, .slice none 0 0] : Array Value).all (·.oneCell') = true := one15 _ rfl
        clear OQ T3 U3 N3 R3
        go_wp2_with (first
          | (refine wpList_load_mid rfl 38 (.tmp 4) rfl b4 0 rfl [.int .i64 cd, .slice va nm vc, .slice none 0 0] d3 RG hd3 hrow3 iMl ?_)
          | (refine wpList_store_mid rfl 38 (.tmp 2) (.tmp 17) rfl w.heap.size 0 #[.int .i64 cd, .slice va nm vc, .slice none 0 0] rfl rfl THR iMl ON ?_))
        exact bodyPost_ret (v := .agg #[.int .i64 cd, .slice va nm vc, .slice none 0 0]) (results_cellG Tryz.results14 _ _ w.heap.size _ d3 rfl RR hd3 hrow3 iMl) rfl RES.out
end Go.Proofs.YtdnkgmlidhepbaaGreat
namespace Go.Proofs.YtdnkgmlidhepbaaGreat
open Go Go.RowKit
theorem HasM.noNew {W : World} {p : MQ} {m : Msg} (h : HasM W p m) {g : Nat} (hg : W.heap.size ≤ g) : NoM g p m :=
  ⟨fun h0 e => by have := h.r.lt h0; omega, fun h0 e => by have := h.s.lt h0; omega, fun h0 e => by have := h.pr.lt h0; omega, fun h0 e => by have := h.ti.lt h0; omega, fun h0 e => by have := h.bi.lt h0; omega, fun h0 e => by
    obtain ⟨off, ha, hc⟩ := h.ce.r h0
    have := block_lt_of_cell (hc 0 h0)
    have e' : p.g11 < W.heap.size := this
    omega, fun i hi h0 e => by have := (h.ce.b i hi).lt h0; omega, fun h0 e => by have := h.pf.lt h0; omega⟩
theorem HasM.ofN {W W' : World} {p : MQ} {m : Msg} {o : Option Nat} (h : HasM W p m) (hk : ∀ b, b < W.heap.size → o ≠ some b → W'.heap[b]? = W.heap[b]?) (hn : ∀ g, o = some g → NoM g p m) : HasM W' p m := by
  refine ⟨h.r.of_block' fun h0 => hk _ (h.r.lt h0) (fun e => (hn _ e).r h0 rfl), h.s.of_block' fun h0 => hk _ (h.s.lt h0) (fun e => (hn _ e).s h0 rfl), fun h0 => ?_, h.ti.of_block' fun h0 => hk _ (h.ti.lt h0) (fun e => (hn _ e).ti h0 rfl), h.bi.of_block' fun h0 => hk _ (h.bi.lt h0) (fun e => (hn _ e).bi h0 rfl), ⟨fun h0 => ?_, fun i hi => (h.ce.b i hi).of_block' fun h0 => hk _ ((h.ce.b i hi).lt h0) (fun e => (hn _ e).cl i hi h0 rfl)⟩, h.pf.of_block' fun h0 => hk _ (h.pf.lt h0) (fun e => (hn _ e).pf h0 rfl), h.prC⟩
  · obtain ⟨off, ha, hc⟩ := h.pr h0
    exact ⟨off, ha, fun i hi => (World.cell?_of_block (a := ⟨p.g5, off + i, none⟩) (hk _ (block_lt_of_cell (hc i hi)) (fun e => (hn _ e).pr h0 rfl))).trans (hc i hi)⟩
  · obtain ⟨off, ha, hc⟩ := h.ce.r h0
    exact ⟨off, ha, fun i hi => (World.cell?_of_block (a := ⟨p.g11, off + i, none⟩) (hk _ (block_lt_of_cell (hc i hi)) (fun e => (hn _ e).ce h0 rfl))).trans (hc i hi)⟩
structure SRow (w : World) (B : Nat) (v : Value) (ms : List Msg) (es : List El) : Prop where
  o : w.ownsRow B 26 13 v ms.length (mgCs ms es)
  l : es.length = ms.length
  b : ∀ i, i < ms.length → HasM w (es.getD i el0).p (ms.getD i msg0)
  n : ∀ i, i < ms.length → ∀ g, v.ownBlock = some g → NoM g (es.getD i el0).p (ms.getD i msg0)
  m : ∀ i, i < ms.length → ∀ g, g < B → NoM g (es.getD i el0).p (ms.getD i msg0)
theorem SRow.nil (w : World) (B : Nat) : SRow w B (.slice none 0 0) [] [] :=
  ⟨⟨rfl, .inl ⟨rfl, rfl⟩⟩, rfl, fun i h => absurd h (by simp), fun i h => absurd h (by simp), fun i h => absurd h (by simp)⟩
theorem SRow.up {w w' : World} {B : Nat} {v : Value} {ms : List Msg} {es : List El} (h : SRow w B v ms es) (n : Below w.heap.size w w') : SRow w' B v ms es := by
  refine ⟨⟨h.o.1, ?_⟩, h.l, fun i hi => (h.b i hi).up n, h.n, h.m⟩
  rcases h.o.2 with h' | ⟨g, cap, cur, rfl, hbg, hg, hnc, hcm, hcs, ht⟩
  · exact .inl h'
  · exact .inr ⟨g, cap, cur, rfl, hbg, by rw [n.block g ((Array.getElem?_eq_some_iff.1 hg).1)]; exact hg, hnc, hcm, hcs, ht⟩
theorem SRow.base {w : World} {B C : Nat} {v : Value} {ms : List Msg} {es : List El} (R : SRow w B v ms es) (hC : C ≤ B) : SRow w C v ms es :=
  ⟨⟨R.o.1, by
      rcases R.o.2 with h' | ⟨g, cap, cur, e1, hbg, h3⟩
      · exact .inl h'
      · exact .inr ⟨g, cap, cur, e1, by omega, h3⟩⟩, R.l, R.b, R.n, fun i hi g hg => R.m i hi g (Nat.lt_of_lt_of_le hg hC)⟩
theorem SRow.slice {w : World} {B : Nat} {v : Value} {ms : List Msg} {es : List El} (h : SRow w B v ms es) : ∃ a c, v = .slice a ms.length c ∧ (a = none → c = 0) := by
  rcases h.o.2 with ⟨h1, h'⟩ | ⟨g, cap, cur, rfl, hb, hg, hnc, hcm, hcs, ht⟩
  · exact ⟨none, 0, by rw [h1, h'], fun _ => rfl⟩
  · exact ⟨_, cap, rfl, fun e => by cases e⟩
theorem SRow.onl {w w' : World} {B q : Nat} {v : Value} {ms : List Msg} {es : List El} (h : SRow w B v ms es) (O : Only q w w') (hq : q < B) : SRow w' B v ms es := by
  refine ⟨⟨h.o.1, ?_⟩, h.l, fun i hi => (h.b i hi).ofN (o := some q) (fun b _ hb => O.block b (fun e => hb (by rw [e]))) (fun g hg => by cases hg; exact h.m i hi q hq), h.n, h.m⟩
  rcases h.o.2 with h' | ⟨g, cap, cur, rfl, hbg, hg, hnc, hcm, hcs, ht⟩
  · exact .inl h'
  · exact .inr ⟨g, cap, cur, rfl, hbg, by rw [O.block g (by omega)]; exact hg, hnc, hcm, hcs, ht⟩
theorem SRow.app {w : World} {B : Nat} {v : Value} {ms : List Msg} {es : List El} (h : SRow w B v ms es) (m : Msg) (e : El) (hB : B ≤ w.heap.size) (hA : HasM w e.p m) (hn : ∀ g, v.ownBlock = some g → NoM g e.p m) (hm : ∀ g, g < B → NoM g e.p m) (hl : ms.length ≤ 1048576) :
    ∃ v' w', (Builtin.append_ #[36, 36] 36 #[v, .slice (some ⟨w.heap.size, 0, none⟩) 1 1]).run Tryz.prog (w.alloc (.cells (mgV e.p m) 26)) = .ok v' w' ∧ SRow w' B v' (ms ++ [m]) (es ++ [e]) ∧ (∀ k, k < w.heap.size → v.ownBlock ≠ some k → w'.heap[k]? = w.heap[k]?) ∧ Below B w w' := by
  obtain ⟨i, hi, hz, hs, hby⟩ := info_parts mInfo
  have na : Below w.heap.size w (w.alloc (.cells (mgV e.p m) 26)) := (Below.refl _ _).alloc (Nat.le_refl _) _
  have h0 : (w.alloc (.cells (mgV e.p m) 26)).ownsRow B 26 13 v ms.length (mgCs ms es) := h.o.alloc _
  have hcell : ∀ j u, ((mgV e.p m).toList)[j]? = some u → (w.alloc (.cells (mgV e.p m) 26)).cell? ((⟨w.heap.size, 0, none⟩ : Addr).add j) = some u := by
    intro j u hj
    have e' : (w.alloc (.cells (mgV e.p m) 26)).heap[w.heap.size]? = some (.cells (mgV e.p m) 26) := heap_alloc_new w _
    rw [add_mid, Nat.zero_add, cell_of_row _ _ j _ _ (0, 0) e']
    simpa using hj
  obtain ⟨v', w', h1, h2, h3, h4, h5⟩ := run_append_own_at (P := Tryz.prog) (w.alloc (.cells (mgV e.p m) 26)) B 36 36 26 i (.agg zM.toArray) 13 224 mUnd hi hz hs hby rfl (by decide) v ms.length (mgCs ms es) h0 ⟨w.heap.size, 0, none⟩ 1 1 ((mgV e.p m).toList) (by rw [mgV_len]) hcell (fun u hu => by
    have := one13m e.p m
    rw [Array.all_eq_true_iff_forall_mem] at this
    exact this u (by simpa using hu)) (by unfold maxLen; omega) (by omega) (Nat.le_trans hB na.size)
  have z : (w.alloc (.cells (mgV e.p m) 26)).heap.size = w.heap.size + 1 := by simp
  have keep : ∀ k, k < w.heap.size → v.ownBlock ≠ some k → w'.heap[k]? = w.heap[k]? := fun k hk hne => (h3.block k (by omega) (fun e => hne e.symm)).trans (na.block k hk)
  have ob := h.o.lt
  have A1 : ∀ j, j < ms.length → (es ++ [e]).getD j el0 = es.getD j el0 := fun j hj => by
    have : j < es.length := by rw [h.l]; exact hj
    simp [List.getD, List.getElem?_append_left this]
  have A2 : ∀ j, j < ms.length → (ms ++ [m]).getD j msg0 = ms.getD j msg0 := fun j hj => by simp [List.getD, List.getElem?_append_left hj]
  have A3 : (es ++ [e]).getD ms.length el0 = e := by rw [← h.l]; simp
  have A4 : (ms ++ [m]).getD ms.length msg0 = m := by simp
  have GE : ∀ g, v'.ownBlock = some g → v.ownBlock = some g ∨ w.heap.size ≤ g := fun g hg => by
    rcases h5 with h5 | h5
    · rw [h5] at hg; exact .inl hg
    · rw [h5] at hg
      have := Option.some.inj hg
      exact .inr (by omega)
  have cut : ∀ j, j < (ms ++ [m]).length → j < ms.length ∨ j = ms.length := fun j hj => by
    rw [List.length_append] at hj
    simp at hj
    omega
  refine ⟨v', w', h1, ⟨?_, by simp [h.l], fun j hj => ?_, fun j hj g hg => ?_, fun j hj g hg => ?_⟩, keep, ((Below.refl B w).alloc hB _).grown h3 (by omega) (fun k hk => (ob k hk).1)⟩
  · show w'.ownsRow B 26 13 v' (ms ++ [m]).length (mgCs (ms ++ [m]) (es ++ [e]))
    rw [mgCs_snoc ms es m e h.l, List.length_append]
    exact h2
  · rcases cut j hj with hj' | rfl
    · rw [A1 j hj', A2 j hj']
      exact (h.b j hj').ofN (o := v.ownBlock) keep (h.n j hj')
    · rw [A3, A4]
      exact hA.ofN (o := v.ownBlock) keep hn
  · rcases cut j hj with hj' | rfl
    · rw [A1 j hj', A2 j hj']
      rcases GE g hg with q | q
      · exact h.n j hj' g q
      · exact (h.b j hj').noNew q
    · rw [A3, A4]
      rcases GE g hg with q | q
      · exact hn g q
      · exact hA.noNew q
  · rcases cut j hj with hj' | rfl
    · rw [A1 j hj', A2 j hj']
      exact h.m j hj' g hg
    · rw [A3, A4]
      exact hm g hg
end Go.Proofs.YtdnkgmlidhepbaaGreat
