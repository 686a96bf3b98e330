import Derived.Test.YtdnkgmlidhepbaaGreatGCxMeM
namespace Go.Proofs.YtdnkgmlidhepbaaGreat
open Go Go.RowKit
structure An (W : World) (B H T : Nat) (v : Value) (ms : List Msg) (es : List El) (gr : Nat) (xa : Option Addr) (ys : List Int) : Prop where
  m : MRow W B v ms es
  r : Own W gr xa .u8 ys
  h : ∀ i, i < ms.length → (es.getD i el0).F 7 ≤ H
  g : ∀ g, v.ownBlock = some g → g < H
  o : 0 < ys.length → H ≤ gr ∧ B ≤ gr
  t : (∀ i, i < ms.length → (es.getD i el0).F 7 ≤ T) ∧ (∀ g, v.ownBlock = some g → g < T) ∧ (0 < ys.length → gr < T)
theorem An.up {W W' : World} {B H T : Nat} {v : Value} {ms : List Msg} {es : List El} {gr : Nat} {xa : Option Addr} {ys : List Int} (h : An W B H T v ms es gr xa ys) (n : Below W.heap.size W W') : An W' B H T v ms es gr xa ys :=
  ⟨h.m.of n.size fun k hk _ => n.block k hk, h.r.up n, h.h, h.g, h.o, h.t⟩
theorem An.onl {W W' : World} {B H T q : Nat} {v : Value} {ms : List Msg} {es : List El} {gr : Nat} {xa : Option Addr} {ys : List Int} (h : An W B H T v ms es gr xa ys) (n : Only q W W') (hq : q < B) : An W' B H T v ms es gr xa ys :=
  ⟨h.m.of (Nat.le_of_eq n.size.symm) fun k _ hb => n.block k (by omega), own_ch h.r fun h0 => n.block gr (by have := (h.o h0).2; omega), h.h, h.g, h.o, h.t⟩
theorem An.rd {W : World} {B H T : Nat} {va : Option Addr} {vc : Nat} {ms : List Msg} {es : List El} {gr : Nat} {xa : Option Addr} {ys : List Int} (h : An W B H T (.slice va ms.length vc) ms es gr xa ys) : ∃ q, RdMs W q va ms (fun i => (es.getD i el0).p) := by
  obtain ⟨q, a, c, e, R⟩ := h.m.rd
  injection e with e1 e2 e3
  subst e1
  exact ⟨q, R⟩
theorem An.adr {W : World} {B H T : Nat} {va : Option Addr} {vc : Nat} {ms : List Msg} {es : List El} {gr : Nat} {xa : Option Addr} {ys : List Int} (h : An W B H T (.slice va ms.length vc) ms es gr xa ys) (h0 : 0 < ms.length) : ∃ g, va = some ⟨g, 0, none⟩ := by
  obtain ⟨g, c, e, -⟩ := h.m.cells h0
  injection e with e1 e2 e3
  exact ⟨g, e1⟩
theorem An.ce {W : World} {B H T : Nat} {v : Value} {ms : List Msg} {es : List El} {gr : Nat} {xa : Option Addr} {ys : List Int} (h : An W B H T v ms es gr xa ys) (i : Nat) (hi : i < ms.length) (h0 : 0 < (ms.getD i msg0).ce.length) : ∃ g, (es.getD i el0).p.a11 = some ⟨g, 0, none⟩ := ⟨_, ((h.m.b i hi).b11 h0).1⟩
theorem MkR.of {W W' : World} {H : Nat} {v : Value} {ms : List Msg} {es : List El} (h : MkR W v ms es) (fn : ∀ i, i < ms.length → Fen (es.getD i el0).F (es.getD i el0).p (ms.getD i msg0) (es.getD i el0).bs) (hH : ∀ i, i < ms.length → (es.getD i el0).F 7 ≤ H) (hg : ∀ g, v.ownBlock = some g → g < H) (hs : W.heap.size ≤ W'.heap.size) (hb : ∀ b, b < H → W'.heap[b]? = W.heap[b]?) : MkR W' v ms es := fun g c e h0 => by
  obtain ⟨h1, h2, h3⟩ := h g c e h0
  have gH := hg g (by rw [e]; rfl)
  exact ⟨Nat.lt_of_lt_of_le h1 hs, fun i hi f u hu => (World.cell?_of_block (a := ⟨g, i * 13 + f, none⟩) (hb g gH)).trans (h2 i hi f u hu), fun i hi => (h3 i hi).of (fn i hi) fun b _ h2 => hb b (by have := hH i hi; omega)⟩
def MkA (W : World) (v : Value) (ms : List Msg) (es : List El) (gr : Nat) (xa : Option Addr) (ys : List Int) : Prop := MkR W v ms es ∧ Rd W gr xa .u8 (marks (kS ms ms.length : Int) ys.length)
theorem MkA.up {W W' : World} {v : Value} {ms : List Msg} {es : List El} {gr : Nat} {xa : Option Addr} {ys : List Int} (h : MkA W v ms es gr xa ys) (n : Below W.heap.size W W') : MkA W' v ms es gr xa ys := ⟨h.1.up n, h.2.up n⟩
set_option maxHeartbeats 2000000 in
theorem markMessageList_an (w : World) (B H T : Nat) (va : Option Addr) (vc : Nat) (ms : List Msg) (es : List El) (gr : Nat) (xa : Option Addr) (xc : Nat) (ys : List Int) (cd : Int) (h : An w B H T (.slice va ms.length vc) ms es gr xa ys) (sm : ∀ i, i < ms.length → SmM (ms.getD i msg0)) (hl : ms.length ≤ 262144) (hy : ys.length ≤ 1048576) (hT : T ≤ w.heap.size) :
    Calls Tryz.prog 16 #[.agg #[.int .i64 cd, .slice va ms.length vc, .slice xa ys.length xc], .int .i64 1] w fun e w' => e = .returned (.int .i64 ((kS ms ms.length + ys.length : Nat) : Int)) ∧ MkA w' (.slice va ms.length vc) ms es gr xa ys ∧ Ch B T w w' := by
  have n1 : Below w.heap.size w (w.alloc (.cells #[.int .i64 cd, .slice va ms.length vc, .slice xa ys.length xc] 38)) := (Below.refl _ _).alloc (Nat.le_refl _) _
  have T1 := RwC.new w [.int .i64 cd, .slice va ms.length vc, .slice xa ys.length xc] 38
  have A1 := h.up n1
  have fn := fun i hi => (A1.m.b i hi).fen
  have kb := kS_bd sm ms.length (Nat.le_refl _)
  have lw : w.heap.size < (w.alloc (.cells #[.int .i64 cd, .slice va ms.length vc, .slice xa ys.length xc] 38)).heap.size := by simp
  have hH' : ∀ i, i < ms.length → (es.getD i el0).F 7 ≤ min H T := fun i hi => Nat.le_min.2 ⟨h.h i hi, h.t.1 i hi⟩
  have hg' : ∀ g, Value.ownBlock (.slice va ms.length vc) = some g → g < min H T := fun g hg => Nat.lt_min.2 ⟨h.g g hg, h.t.2.1 g hg⟩
  have MM := hide (markMessageS_row _ B (min H T) _ ms es A1.m sm hl hH' hg')
  have FN := hide fn
  have AH := hide A1.r
  have GH := hide h.o
  have H1 := hide hH'
  have H2 := hide hg'
  have N1 := hide n1
  have grl : Hid (0 < ys.length → gr < T) := h.t.2.2
  have kb' : kS ms ms.length ≤ 838860800001 := by omega
  clear h A1 fn kb hH' hg' n1 sm
  generalize hkk : kS ms ms.length = kk at *
  have HKK := hide hkk
  clear hkk
  generalize hml : ms.length = ml at *
  have HML := hide hml
  clear hml
  go_enter Tryz.func16, Tryz.ntmps16
  go_wp2_with fail
  generalize w.alloc (.cells #[.int .i64 cd, .slice va ml vc, .slice xa ys.length xc] 38) = wa at *
  refine MM.out.mono ?_
  rintro e w2 ⟨rfl, MK, C⟩
  have o2 := own_ch AH.out fun h0 => C.block gr (AH.out.rd.lt h0) (.inr (by have := (GH.out h0).1; omega))
  have c2 : w2.cell? ⟨w.heap.size, 2, none⟩ = some (.slice xa ys.length xc) := (World.cell?_of_block (a := ⟨w.heap.size, 2, none⟩) (C.block w.heap.size lw (.inr (by omega)))).trans (T1.cell 2)
  have MB := hide (markB_g w2 gr (max (min H T) B) T xa xc ys kk o2 (fun h0 => ⟨by have := GH.out h0; omega, grl.out h0⟩) hy (by omega))
  have MK' := hide MK
  clear MM T1 MK AH
  go_wp2_with fail
  refine MB.out.mono ?_
  rintro e w3 ⟨rfl, R3, C3⟩
  have RES : Hid (MkA w3 (.slice va ml vc) ms es gr xa ys) := by
    show MkA _ _ _ _ _ _ _
    refine ⟨?_, by rw [HML.out, HKK.out]; exact R3⟩
    rw [← HML.out]
    refine MkR.of (H := min H T) (W := w2) (by have := MK'.out; rw [← HML.out] at this; exact this) (by have := FN.out; rw [← HML.out] at this; exact this) (by have := H1.out; rw [← HML.out] at this; exact this) (by have := H2.out; rw [← HML.out] at this; exact this) C3.size fun b hb => ?_
    by_cases hb2 : b < w2.heap.size
    · exact C3.block b hb2 (.inl (by omega))
    · exact absurd hb (by have := C.size; omega)
  have FIN : Hid (Ch B T w w3) := (Ch.of_below N1.out).trans ((C.mono (Nat.le_refl _) (Nat.min_le_right _ _)).trans (C3.mono (Nat.le_max_right _ _) (Nat.le_refl _)))
  clear C C3 R3 MB
  go_wp2
  go_ret
  exact ⟨rfl, RES.out, FIN.out⟩
set_option maxHeartbeats 2000000 in
theorem heldMessageList_mk (w : World) (va : Option Addr) (vc : Nat) (ms : List Msg) (es : List El) (gr : Nat) (xa : Option Addr) (xc : Nat) (ys : List Int) (cd : Int) (ha : 0 < ms.length → ∃ g, va = some ⟨g, 0, none⟩) (h : MkA w (.slice va ms.length vc) ms es gr xa ys) (hce : ∀ i, i < ms.length → 0 < (ms.getD i msg0).ce.length → ∃ g, (es.getD i el0).p.a11 = some ⟨g, 0, none⟩) (sm : ∀ i, i < ms.length → SmM (ms.getD i msg0)) (hl : ms.length ≤ 262144) (hy : ys.length ≤ 1048576) :
    Calls Tryz.prog 17 #[.agg #[.int .i64 cd, .slice va ms.length vc, .slice xa ys.length xc], .int .i64 1] w fun e w' => e = .returned (.int .i64 ((kS ms ms.length + ys.length : Nat) : Int)) ∧ Below w.heap.size w w' := by
  have n1 : Below w.heap.size w (w.alloc (.cells #[.int .i64 cd, .slice va ms.length vc, .slice xa ys.length xc] 38)) := (Below.refl _ _).alloc (Nat.le_refl _) _
  have T1 := RwC.new w [.int .i64 cd, .slice va ms.length vc, .slice xa ys.length xc] 38
  have A1 := h.up n1
  have kb := kS_bd sm ms.length (Nat.le_refl _)
  have MM := hide (heldMessageS_row _ va vc ms es ha A1.1 hce sm hl)
  have AR := hide A1.2
  have N1 := hide n1
  have kb' : kS ms ms.length ≤ 838860800001 := by omega
  clear h A1 kb n1 sm ha hce
  generalize kS ms ms.length = kk at *
  generalize ms.length = ml at *
  have t1 : decide ((kk : Int) < 0) = false := decide_eq_false (by omega)
  have t2 : decide ((kk : Int) + (ys.length : Int) < 0) = false := decide_eq_false (by omega)
  go_enter Tryz.func17, Tryz.ntmps17
  go_wp2_with fail
  generalize w.alloc (.cells #[.int .i64 cd, .slice va ml vc, .slice xa ys.length xc] 38) = wa at *
  refine MM.out.mono ?_
  rintro e w2 ⟨rfl, n2⟩
  have c2 : w2.cell? ⟨w.heap.size, 2, none⟩ = some (.slice xa ys.length xc) := (T1.up n2).cell 2
  have MB := hide (heldByteS_any w2 gr xa xc ys.length (kk : Int) (AR.out.up n2) hy (by omega) (by omega))
  have N2 := hide (nxt N1.out n2)
  clear MM T1 n2
  go_wp2_with fail
  refine MB.out.mono ?_
  rintro e w3 ⟨rfl, rfl⟩
  clear MB
  go_wp2
  go_ret
  exact ⟨by first | rfl | exact ret_int (by omega), N2.out⟩
end Go.Proofs.YtdnkgmlidhepbaaGreat
namespace Go.Proofs.YtdnkgmlidhepbaaGreat
open Go Go.RowKit
theorem wpList_load_midV {P : Program} {ops : Array Oper} {rest : List Oper} {op : Oper} {a : Act} {w : World} {Q : Exit → Act → World → Prop} (hw : Region.wanted op (yielded ops a.tmps) = true) (ty : TypeId) (x : Operand) (ho : op.op = .load ty x)
    (b o : Nat) (hx : a.eval x = .pointer (some ⟨b, o, none⟩)) (cs : List Value) (d : TypeDesc) (hc : w.rangeAt b o cs)
    (hu : P.underlying ty = some d) (hd : d.isRow = true) (hi : (P.info? ty).map (·.size) = some cs.length)
    (h : wpList P ops Q rest (a.put op.dst (.agg cs.toArray)) w) : wpList P ops Q (op :: rest) a w := by
  unfold wpList
  rw [if_pos hw]
  exact .inl (wp_load_mid ty x ho b o hx cs d hc hu hd hi h)
theorem nxt2 {b : Nat} {a u v : World} (h : Below b a u) (n : Below u.heap.size u v) (hb : b ≤ u.heap.size := by omega) : Below b a v := h.trans (n.mono hb)
theorem cmR_len (xs : List Int) : (cmR xs).length ≤ xs.length := by
  unfold cmR
  split
  · rw [List.length_drop]; omega
  · simp
theorem one3 (cd : Int) (a b : Option Addr) (n c m d : Nat) : (#[.int .i64 cd, .slice a n c, .slice b m d] : Array Value).all (·.oneCell') = true := by simp [Value.oneCell']
theorem CcP.an {W : World} {xs : List Int} {e : Ending} {w' : World} (h : CcP W xs e w') : (∃ va vc es gr xa xc H, e = .returned (.agg #[.int .i64 (cmC xs), .slice va (cmL xs).length vc, .slice xa (cmR xs).length xc]) ∧ An w' W.heap.size H w'.heap.size (.slice va (cmL xs).length vc) (cmL xs) es gr xa (cmR xs)) ∧ Below W.heap.size W w' := by
  obtain ⟨⟨v, es, x, rfl, MR, RB, H, RH, h1, h2⟩, n⟩ := h
  obtain ⟨va, vc, rfl, -⟩ := MR.slice
  obtain ⟨xa, xc, gr, rfl, own, -, -, hH⟩ := RH.own
  refine ⟨⟨va, vc, es, gr, xa, xc, H, rfl, MR, own, h1, h2, fun h0 => ⟨hH, ?_⟩, MR.t, fun g hg => (World.ownsRow.lt MR.o g hg).2, fun h0 => own.rd.lt h0⟩, n⟩
  obtain ⟨off, ea, -⟩ := own h0
  exact (World.ownsRow.lt RB gr (by rw [ea]; rfl)).1
theorem ScP.rd {W : World} {xs : List Int} {e : Ending} {w' : World} (h : ScP W xs e w') : (∃ gq aq cq P gy ay cy, e = .returned (.agg #[.int .i64 (cmC xs), .slice aq (cmL xs).length cq, .slice ay (cmR xs).length cy]) ∧ RdMs w' gq aq (cmL xs) P ∧ Rd w' gy ay .u8 (cmR xs)) ∧ Below W.heap.size W w' := by
  obtain ⟨⟨v, es, x, rfl, SR, RB⟩, n⟩ := h
  obtain ⟨gq, aq, cq, rfl, R⟩ := SR.rd
  obtain ⟨ay, cy, gy, rfl, R2, -⟩ := RB.rd
  exact ⟨⟨gq, aq, cq, _, gy, ay, cy, rfl, R, R2⟩, n⟩
set_option maxRecDepth 100000 in
set_option maxHeartbeats 8000000 in
theorem cutMsg_law (w : World) (g0 : Nat) (a0 : Option Addr) (c0 : Nat) (X0 : List Int) (hX0 : Rd w g0 a0 .u8 X0) (bX0 : Byt X0) :
    Calls Tryz.prog 4 #[.slice a0 X0.length c0] w fun e w' => e = .returned (.bool true) ∧ Below w.heap.size w w' := by
  by_cases q0 : X0.length ≤ 1048576
  rotate_left
  · have u0 : decide ((1048576 : Int) < (X0.length : Int)) = true := decide_eq_true (by omega)
    clear hX0
    go_enter Tryz.func4, Tryz.ntmps4
    go_wp2
    go_ret
    exact ⟨rfl, Below.refl _ _⟩
  have u0 : decide ((1048576 : Int) < (X0.length : Int)) = false := decide_eq_false (by omega)
  obtain ⟨cd, hcd⟩ : ∃ x, Hid (cmC X0 = x) := ⟨_, rfl⟩
  obtain ⟨ms, hms⟩ : ∃ x, Hid (cmL X0 = x) := ⟨_, rfl⟩
  obtain ⟨ys, hys⟩ : ∃ x, Hid (cmR X0 = x) := ⟨_, rfl⟩
  have SM : Hid (∀ i, i < ms.length → SmM (ms.getD i msg0)) := fun i hi => by rw [← hms.out] at hi ⊢; exact (cmL_get bX0 i hi).2
  have IS : Hid (∀ i, i < ms.length → IsM (ms.getD i msg0)) := fun i hi => by rw [← hms.out] at hi ⊢; exact (cmL_get bX0 i hi).1
  have LM : Hid (ms.length ≤ 262144) := by show _ ≤ _; have := cmL_len bX0; rw [hms.out] at this; omega
  have LY : Hid (ys.length ≤ 1048576) := by show _ ≤ _; have := cmR_len X0; rw [hys.out] at this; omega
  have SP : Hid (∀ (W : World) (g : Nat), Blk W g .u8 X0 → Calls Tryz.prog 13 #[.slice (some ⟨g, 0, none⟩) X0.length X0.length] W fun e w' => (∃ gq aq cq P gy ay cy, e = .returned (.agg #[.int .i64 cd, .slice aq ms.length cq, .slice ay ys.length cy]) ∧ RdMs w' gq aq ms P ∧ Rd w' gy ay .u8 ys) ∧ Below W.heap.size W w') := fun W g hB => by
    refine (specCM_any W g (some ⟨g, 0, none⟩) X0.length X0 hB.own0.rd bX0 (fun h => by cases h) (Nat.le_refl _) q0).mono fun e w' h => ?_
    have := h.rd
    rw [hcd.out, hms.out, hys.out] at this
    exact this
  have IM : Hid (∀ (W : World) (g : Nat), Blk W g .u8 X0 → Calls Tryz.prog 14 #[.slice (some ⟨g, 0, none⟩) X0.length X0.length] W fun e w' => (∃ va vc es gr xa xc H, e = .returned (.agg #[.int .i64 cd, .slice va ms.length vc, .slice xa ys.length xc]) ∧ An w' W.heap.size H w'.heap.size (.slice va ms.length vc) ms es gr xa ys) ∧ Below W.heap.size W w') := fun W g hB => by
    refine (implCM_any W g (some ⟨g, 0, none⟩) X0.length X0 hB.own0.rd bX0 (fun h => by cases h) (Nat.le_refl _) q0).mono fun e w' h => ?_
    have := h.an
    rw [hcd.out, hms.out, hys.out] at this
    exact this
  have EQS : Hid (∀ (W : World) (q q' : Nat) (a a' : Option Addr) (c c' : Nat) (P P' : Nat → MQ), RdMs W q a ms P → RdMs W q' a' ms P' → ∀ (g g' : Nat) (x x' : Option Addr) (y y' : Nat), Rd W g x .u8 ys → Rd W g' x' .u8 ys → Calls Tryz.prog 15 #[.agg #[.int .i64 cd, .slice a ms.length c, .slice x ys.length y], .agg #[.int .i64 cd, .slice a' ms.length c', .slice x' ys.length y']] W fun e w' => e = .returned (.bool true) ∧ Below W.heap.size W w') := fun W q q' a a' c c' P P' h h' g g' x x' y y' hx hx' => eqMessageList_same W cd q q' a a' c c' ms P P' h h' IS.out (by have := LM.out; omega) g g' x x' y y' ys hx hx' LY.out
  have MKS : Hid (∀ (W : World) (B H T : Nat) (va : Option Addr) (vc : Nat) (es : List El) (gr : Nat) (xa : Option Addr) (xc : Nat), An W B H T (.slice va ms.length vc) ms es gr xa ys → T ≤ W.heap.size → Calls Tryz.prog 16 #[.agg #[.int .i64 cd, .slice va ms.length vc, .slice xa ys.length xc], .int .i64 1] W fun e w' => e = .returned (.int .i64 ((kS ms ms.length + ys.length : Nat) : Int)) ∧ MkA w' (.slice va ms.length vc) ms es gr xa ys ∧ Ch B T W w') := fun W B H T va vc es gr xa xc h hT => markMessageList_an W B H T va vc ms es gr xa xc ys cd h SM.out LM.out LY.out hT
  have HKS : Hid (∀ (W : World) (va : Option Addr) (vc : Nat) (es : List El) (gr : Nat) (xa : Option Addr) (xc : Nat), (0 < ms.length → ∃ g, va = some ⟨g, 0, none⟩) → MkA W (.slice va ms.length vc) ms es gr xa ys → (∀ i, i < ms.length → 0 < (ms.getD i msg0).ce.length → ∃ g, (es.getD i el0).p.a11 = some ⟨g, 0, none⟩) → Calls Tryz.prog 17 #[.agg #[.int .i64 cd, .slice va ms.length vc, .slice xa ys.length xc], .int .i64 1] W fun e w' => e = .returned (.int .i64 ((kS ms ms.length + ys.length : Nat) : Int)) ∧ Below W.heap.size W w') := fun W va vc es gr xa xc ha h hc => heldMessageList_mk W va vc ms es gr xa xc ys cd ha h hc SM.out LM.out LY.out
  obtain ⟨nn, hnn⟩ : ∃ x : Nat, Hid (kS ms ms.length + ys.length = x) := ⟨_, rfl⟩
  rw [hnn.out] at MKS HKS
  have t0 : decide ((nn : Int) < 0) = false := decide_eq_false (by omega)
  obtain ⟨d3, hd3, hrow3⟩ := rowMl
  have HX := hide hX0
  have N := Below.refl w.heap.size w
  clear hX0 bX0 hcd hms hys SM IS LM LY hnn
  generalize hnm : ms.length = nm at *
  generalize hny : ys.length = ny at *
  have HNM := hide hnm
  have HNY := hide hny
  clear hnm hny
  go_enter Tryz.func4, Tryz.ntmps4
  have TB := hide (toByteS_any w g0 a0 c0 X0 (HX.out.up N) q0)
  go_wp2_with fail
  refine TB.out.mono ?_
  rintro e Y1 ⟨rfl, hB, nB⟩
  clear TB
  obtain ⟨g1, hg1⟩ : ∃ g, w.heap.size = g := ⟨_, rfl⟩
  rw [hg1] at hB ⊢
  have lg1 : w.heap.size ≤ g1 := by rw [← hg1]; exact N.size
  clear hg1
  have Xg1 := hide hB
  clear hB
  have N' := nxt N nB
  clear N
  have N := N'
  clear N'
  clear nB
  have CS := hide (SP.out Y1 g1 Xg1.out)
  go_wp2_with fail
  refine CS.out.mono ?_
  rintro e Y2 ⟨⟨gq, aq, cq, PQ, gy, ay, cy, rfl, hM, hY⟩, n2⟩
  clear CS
  have HM := hide hM
  have HY := hide hY
  clear hM hY
  have N' := nxt N n2
  clear N
  have N := N'
  clear N'
  clear n2
  have nA : Below Y2.heap.size Y2 (Y2.alloc (.cells #[.int .i64 0, .slice none 0 0, .slice none 0 0] 38)) := (Below.refl _ _).alloc (Nat.le_refl _) _
  have ZA : RwC (Y2.alloc (.cells #[.int .i64 0, .slice none 0 0, .slice none 0 0] 38)) Y2.heap.size [.int .i64 0, .slice none 0 0, .slice none 0 0] 38 := RwC.new Y2 _ _
  have OQ := only_setG (Y2.alloc (.cells #[.int .i64 0, .slice none 0 0, .slice none 0 0] 38)) Y2.heap.size [.int .i64 cd, .slice aq nm cq, .slice ay ny cy] 0
  have BX : RwC ((Y2.alloc (.cells #[.int .i64 0, .slice none 0 0, .slice none 0 0] 38)).setCells Y2.heap.size 0 [.int .i64 cd, .slice aq nm cq, .slice ay ny cy]) Y2.heap.size [.int .i64 cd, .slice aq nm cq, .slice ay ny cy] 38 := ZA.put rfl
  have nS : Below Y2.heap.size Y2 ((Y2.alloc (.cells #[.int .i64 0, .slice none 0 0, .slice none 0 0] 38)).setCells Y2.heap.size 0 [.int .i64 cd, .slice aq nm cq, .slice ay ny cy]) := nA.trans (OQ.below (Nat.le_refl _))
  have THR := ZA.thereG
  have ON : (#[.int .i64 cd, .slice aq nm cq, .slice ay ny cy] : Array Value).all (·.oneCell') = true := one3 _ _ _ _ _ _ _
  clear nA ZA OQ
  go_upto_region 4 with (refine wpList_store_mid rfl 38 (.tmp 3) (.tmp 15) rfl Y2.heap.size 0 #[.int .i64 cd, .slice aq nm cq, .slice ay ny cy] rfl rfl THR iMl ON ?_)
  clear THR ON
  generalize ((Y2.alloc (.cells #[.int .i64 0, .slice none 0 0, .slice none 0 0] 38)).setCells Y2.heap.size 0 [.int .i64 cd, .slice aq nm cq, .slice ay ny cy]) = Y3 at *
  obtain ⟨b5, hb5⟩ : ∃ g, Y2.heap.size = g := ⟨_, rfl⟩
  have Xb5 : Hid (RwC Y3 Y2.heap.size [.int .i64 cd, .slice aq nm cq, .slice ay ny cy] 38) := BX
  clear BX
  rw [hb5] at Xb5 ⊢
  have wb5 : w.heap.size ≤ b5 := by rw [← hb5]; exact N.size
  have NB : Below Y2.heap.size Y2 Y3 := nS
  have HM0 := HM
  have HY0 := HY
  clear HM HY
  have lb2' := Nat.le_refl Y2.heap.size
  obtain ⟨b2, hb2⟩ : ∃ g, Y2.heap.size = g := ⟨_, rfl⟩
  have HUP : Hid (∀ V, Below b2 Y2 V → RdMs V gq aq ms PQ ∧ Rd V gy ay .u8 ys) := fun V nV => by rw [← hb2] at nV; exact ⟨HM0.out.up nV, HY0.out.up nV⟩
  rw [hb2] at NB lb2'
  have lb2 : b2 ≤ Y2.heap.size := by omega
  have e25 : b2 ≤ b5 := by omega
  clear HM0 HY0 lb2' hb5 Xg1
  have N' := nxt N nS
  clear N
  have N := N'
  clear N' nS hb2
  have TB := hide (toByteS_any Y3 g0 a0 c0 X0 (HX.out.up N) q0)
  go_wp2_with fail
  refine TB.out.mono ?_
  rintro e Y4 ⟨rfl, hB, nB⟩
  clear TB
  obtain ⟨g6, hg6⟩ : ∃ g, Y3.heap.size = g := ⟨_, rfl⟩
  rw [hg6] at hB ⊢
  have lg6 : w.heap.size ≤ g6 := by rw [← hg6]; exact N.size
  have mg6 : b2 ≤ g6 := by rw [← hg6]; exact Nat.le_trans lb2 NB.size
  have x56 : b5 < g6 := by rw [← hg6]; exact Xb5.out.lt
  clear hg6
  have Xg6 := hide hB
  clear hB
  have NB' : Below b2 Y2 Y4 := nxt2 NB nB (Nat.le_trans lb2 NB.size)
  clear NB
  have NB := NB'
  clear NB'
  have N' := nxt N nB
  clear N
  have N := N'
  clear N'
  have Xb5' := hide (Xb5.out.up nB)
  clear Xb5
  have Xb5 := Xb5'
  clear Xb5'
  clear nB
  go_upto_region 5 with fail
  have s4 := Xg6.out.lt
  have s45 := Xb5.out.lt
  have CI := hide (IM.out Y4 g6 Xg6.out)
  go_wp2_with fail
  refine CI.out.mono ?_
  rintro e Y5 ⟨⟨va, vc, es, gr, xa, xc, H, rfl, hA⟩, n5⟩
  clear CI
  have HA := hide hA
  clear hA
  obtain ⟨B, hBB⟩ : ∃ g, Y4.heap.size = g := ⟨_, rfl⟩
  obtain ⟨T, hTT⟩ : ∃ g, Y5.heap.size = g := ⟨_, rfl⟩
  rw [hBB, hTT] at HA
  have lBT : B ≤ T := by rw [← hBB, ← hTT]; exact n5.size
  have f6 : g6 < B := by omega
  have f5 : b5 < B := by omega
  have lBw : w.heap.size ≤ B := by rw [← hBB]; exact N.size
  have lBb : b2 ≤ B := by rw [← hBB]; exact Nat.le_trans lb2 NB.size
  have HTT := hide hTT
  clear s4 s45 hTT hBB
  have NB' : Below b2 Y2 Y5 := nxt2 NB n5 (Nat.le_trans lb2 NB.size)
  clear NB
  have NB := NB'
  clear NB'
  have N' := nxt N n5
  clear N
  have N := N'
  clear N'
  have Xb5' := hide (Xb5.out.up n5)
  clear Xb5
  have Xb5 := Xb5'
  clear Xb5'
  have Xg6' := hide (Xg6.out.up n5)
  clear Xg6
  have Xg6 := Xg6'
  clear Xg6'
  clear n5
  have nA : Below Y5.heap.size Y5 (Y5.alloc (.cells #[.int .i64 0, .slice none 0 0, .slice none 0 0] 38)) := (Below.refl _ _).alloc (Nat.le_refl _) _
  have ZA : RwC (Y5.alloc (.cells #[.int .i64 0, .slice none 0 0, .slice none 0 0] 38)) Y5.heap.size [.int .i64 0, .slice none 0 0, .slice none 0 0] 38 := RwC.new Y5 _ _
  have OQ := only_setG (Y5.alloc (.cells #[.int .i64 0, .slice none 0 0, .slice none 0 0] 38)) Y5.heap.size [.int .i64 cd, .slice va nm vc, .slice xa ny xc] 0
  have BX : RwC ((Y5.alloc (.cells #[.int .i64 0, .slice none 0 0, .slice none 0 0] 38)).setCells Y5.heap.size 0 [.int .i64 cd, .slice va nm vc, .slice xa ny xc]) Y5.heap.size [.int .i64 cd, .slice va nm vc, .slice xa ny xc] 38 := ZA.put rfl
  have nS : Below Y5.heap.size Y5 ((Y5.alloc (.cells #[.int .i64 0, .slice none 0 0, .slice none 0 0] 38)).setCells Y5.heap.size 0 [.int .i64 cd, .slice va nm vc, .slice xa ny xc]) := nA.trans (OQ.below (Nat.le_refl _))
  have THR := ZA.thereG
  have ON : (#[.int .i64 cd, .slice va nm vc, .slice xa ny xc] : Array Value).all (·.oneCell') = true := one3 _ _ _ _ _ _ _
  clear nA ZA OQ
  go_upto_region 6 with (refine wpList_store_mid rfl 38 (.tmp 5) (.tmp 19) rfl Y5.heap.size 0 #[.int .i64 cd, .slice va nm vc, .slice xa ny xc] rfl rfl THR iMl ON ?_)
  clear THR ON
  generalize ((Y5.alloc (.cells #[.int .i64 0, .slice none 0 0, .slice none 0 0] 38)).setCells Y5.heap.size 0 [.int .i64 cd, .slice va nm vc, .slice xa ny xc]) = Y6 at *
  obtain ⟨b7, hb7⟩ : ∃ g, Y5.heap.size = g := ⟨_, rfl⟩
  have Xb7 : Hid (RwC Y6 Y5.heap.size [.int .i64 cd, .slice va nm vc, .slice xa ny xc] 38) := BX
  clear BX
  rw [hb7] at Xb7 ⊢
  have wb7 : w.heap.size ≤ b7 := by rw [← hb7]; exact N.size
  have f7 : T ≤ b7 := by have := HTT.out; omega
  have s7 := Xg6.out.lt
  have s75 := Xb5.out.lt
  have g7 : g6 < b7 := by omega
  have c75 : b5 < b7 := by omega
  clear hb7 s7 s75 HTT
  have NB' : Below b2 Y2 Y6 := nxt2 NB nS (Nat.le_trans lb2 NB.size)
  clear NB
  have NB := NB'
  clear NB'
  have N' := nxt N nS
  clear N
  have N := N'
  clear N'
  have Xb5' := hide (Xb5.out.up nS)
  clear Xb5
  have Xb5 := Xb5'
  clear Xb5'
  have Xg6' := hide (Xg6.out.up nS)
  clear Xg6
  have Xg6 := Xg6'
  clear Xg6'
  have HA' := hide (HA.out.up nS)
  clear HA
  have HA := HA'
  clear HA'
  clear nS
  obtain ⟨qA, rA⟩ := An.rd (show An Y6 _ _ _ (.slice va ms.length vc) ms es gr xa ys by rw [HNM.out]; exact HA.out)
  have RA := Xb7.out.rangeG
  have RB := Xb5.out.rangeG
  have EQ := hide (EQS.out Y6 qA gq va aq vc cq _ _ rA (HUP.out Y6 NB).1 gr gy xa ay xc cy HA.out.r.rd (HUP.out Y6 NB).2)
  clear rA
  go_wp2_with (first
    | (refine wpList_load_mid rfl 38 (.tmp 5) rfl b7 0 rfl [.int .i64 cd, .slice va nm vc, .slice xa ny xc] d3 RA hd3 hrow3 iMl ?_)
    | (refine wpList_load_mid rfl 38 (.tmp 3) rfl b5 0 rfl [.int .i64 cd, .slice aq nm cq, .slice ay ny cy] d3 RB hd3 hrow3 iMl ?_)
    | fail)
  refine EQ.out.mono ?_
  rintro e Y7 ⟨rfl, nQ⟩
  clear EQ RA RB
  have NB' : Below b2 Y2 Y7 := nxt2 NB nQ (Nat.le_trans lb2 NB.size)
  clear NB
  have NB := NB'
  clear NB'
  have N' := nxt N nQ
  clear N
  have N := N'
  clear N'
  have Xb5' := hide (Xb5.out.up nQ)
  clear Xb5
  have Xb5 := Xb5'
  clear Xb5'
  have Xg6' := hide (Xg6.out.up nQ)
  clear Xg6
  have Xg6 := Xg6'
  clear Xg6'
  have HA' := hide (HA.out.up nQ)
  clear HA
  have HA := HA'
  clear HA'
  have Xb7' := hide (Xb7.out.up nQ)
  clear Xb7
  have Xb7 := Xb7'
  clear Xb7'
  clear nQ
  go_upto_region 8 with fail
  have TB := hide (toByteS_any Y7 g0 a0 c0 X0 (HX.out.up N) q0)
  go_wp2_with fail
  refine TB.out.mono ?_
  rintro e Y8 ⟨rfl, hB, nB⟩
  clear TB
  obtain ⟨g8, hg8⟩ : ∃ g, Y7.heap.size = g := ⟨_, rfl⟩
  rw [hg8] at hB ⊢
  have lg8 : w.heap.size ≤ g8 := by rw [← hg8]; exact N.size
  have mg8 : b2 ≤ g8 := by rw [← hg8]; exact Nat.le_trans lb2 NB.size
  clear hg8
  have Xg8 := hide hB
  clear hB
  have NB' : Below b2 Y2 Y8 := nxt2 NB nB (Nat.le_trans lb2 NB.size)
  clear NB
  have NB := NB'
  clear NB'
  have N' := nxt N nB
  clear N
  have N := N'
  clear N'
  have Xb5' := hide (Xb5.out.up nB)
  clear Xb5
  have Xb5 := Xb5'
  clear Xb5'
  have Xg6' := hide (Xg6.out.up nB)
  clear Xg6
  have Xg6 := Xg6'
  clear Xg6'
  have HA' := hide (HA.out.up nB)
  clear HA
  have HA := HA'
  clear HA'
  have Xb7' := hide (Xb7.out.up nB)
  clear Xb7
  have Xb7 := Xb7'
  clear Xb7'
  clear nB
  have EB := hide (eqByteS_same Y8 g6 g8 (some ⟨g6, 0, none⟩) (some ⟨g8, 0, none⟩) X0.length X0.length X0 Xg6.out.own0.rd Xg8.out.own0.rd q0)
  go_wp2_with fail
  refine EB.out.mono ?_
  rintro e Y9 ⟨rfl, nE⟩
  clear EB Xg8 mg8 lg8
  have NB' : Below b2 Y2 Y9 := nxt2 NB nE (Nat.le_trans lb2 NB.size)
  clear NB
  have NB := NB'
  clear NB'
  have N' := nxt N nE
  clear N
  have N := N'
  clear N'
  have Xb5' := hide (Xb5.out.up nE)
  clear Xb5
  have Xb5 := Xb5'
  clear Xb5'
  have Xg6' := hide (Xg6.out.up nE)
  clear Xg6
  have Xg6 := Xg6'
  clear Xg6'
  have HA' := hide (HA.out.up nE)
  clear HA
  have HA := HA'
  clear HA'
  have Xb7' := hide (Xb7.out.up nE)
  clear Xb7
  have Xb7 := Xb7'
  clear Xb7'
  clear nE
  have MB := hide (markByteS_any Y9 g6 (some ⟨g6, 0, none⟩) X0.length X0 1 Xg6.out.own0 q0 (by omega) (by omega))
  go_wp2_with fail
  refine MB.out.mono ?_
  rintro e Y10 ⟨rfl, -, O⟩
  clear MB Xg6
  have Xb5' : Hid (RwC Y10 b5 [.int .i64 cd, .slice aq nm cq, .slice ay ny cy] 38) := (O.block b5 (by omega)).trans Xb5.out
  have Xb7' : Hid (RwC Y10 b7 [.int .i64 cd, .slice va nm vc, .slice xa ny xc] 38) := (O.block b7 (by omega)).trans Xb7.out
  have HA' := hide (HA.out.onl O f6)
  have N' : Below w.heap.size w Y10 := N.trans (O.below lg6)
  have NB' : Below b2 Y2 Y10 := NB.trans (O.below mg6)
  clear Xb5 Xb7 HA N NB O
  have Xb5 := Xb5'
  have Xb7 := Xb7'
  have HA := HA'
  have N := N'
  have NB := NB'
  clear Xb5' Xb7' HA' N' NB'
  have t1 : decide ((1 : Int) + (X0.length : Int) < 0) = false := decide_eq_false (by omega)
  obtain ⟨qA, rA⟩ := An.rd (show An Y10 _ _ _ (.slice va ms.length vc) ms es gr xa ys by rw [HNM.out]; exact HA.out)
  have RA := Xb7.out.rangeG
  have RB := Xb5.out.rangeG
  have EQ := hide (EQS.out Y10 qA gq va aq vc cq _ _ rA (HUP.out Y10 NB).1 gr gy xa ay xc cy HA.out.r.rd (HUP.out Y10 NB).2)
  clear rA
  go_wp2_with (first
    | (refine wpList_load_midV rfl 38 (.tmp 5) rfl b7 0 rfl [.int .i64 cd, .slice va nm vc, .slice xa ny xc] d3 RA hd3 hrow3 iMl ?_)
    | (refine wpList_load_midV rfl 38 (.tmp 3) rfl b5 0 rfl [.int .i64 cd, .slice aq nm cq, .slice ay ny cy] d3 RB hd3 hrow3 iMl ?_)
    | fail)
  refine EQ.out.mono ?_
  rintro e Y11 ⟨rfl, nQ⟩
  clear EQ RA RB
  have NB' : Below b2 Y2 Y11 := nxt2 NB nQ (Nat.le_trans lb2 NB.size)
  clear NB
  have NB := NB'
  clear NB'
  have N' := nxt N nQ
  clear N
  have N := N'
  clear N'
  have Xb5' := hide (Xb5.out.up nQ)
  clear Xb5
  have Xb5 := Xb5'
  clear Xb5'
  have HA' := hide (HA.out.up nQ)
  clear HA
  have HA := HA'
  clear HA'
  have Xb7' := hide (Xb7.out.up nQ)
  clear Xb7
  have Xb7 := Xb7'
  clear Xb7'
  clear nQ
  clear t1
  go_upto_region 15 with fail
  have TW : T ≤ Y11.heap.size := by have := Xb7.out.lt; omega
  have RA := Xb7.out.rangeG
  have MM := hide (MKS.out Y11 B H T va vc es gr xa xc HA.out TW)
  go_wp2_with (first
    | (refine wpList_load_mid rfl 38 (.tmp 5) rfl b7 0 rfl [.int .i64 cd, .slice va nm vc, .slice xa ny xc] d3 RA hd3 hrow3 iMl ?_)
    | fail)
  refine MM.out.mono ?_
  rintro e Y12 ⟨rfl, MK, C⟩
  clear MM RA
  have CE := hide HA.out.ce
  have AD : Hid (0 < nm → ∃ g, va = some ⟨g, 0, none⟩) := fun h0 => An.adr (show An Y11 B H T (.slice va ms.length vc) ms es gr xa ys by rw [HNM.out]; exact HA.out) (by rw [HNM.out]; exact h0)
  clear HA
  have Xb5' : Hid (RwC Y12 b5 [.int .i64 cd, .slice aq nm cq, .slice ay ny cy] 38) := (C.block b5 Xb5.out.lt (.inl f5)).trans Xb5.out
  have Xb7' : Hid (RwC Y12 b7 [.int .i64 cd, .slice va nm vc, .slice xa ny xc] 38) := (C.block b7 Xb7.out.lt (.inr f7)).trans Xb7.out
  have lB11 : B ≤ Y11.heap.size := by have := Xb7.out.lt; have := Xb5.out.lt; omega
  have CB := C.below lB11
  have N' : Below w.heap.size w Y12 := N.trans (CB.mono lBw)
  have NB' : Below b2 Y2 Y12 := NB.trans (CB.mono lBb)
  have HK := hide MK
  clear Xb5 Xb7 N NB C CB MK lB11 TW
  have Xb5 := Xb5'
  have Xb7 := Xb7'
  have N := N'
  have NB := NB'
  clear Xb5' Xb7' N' NB'
  have RA := Xb7.out.rangeG
  have HH := hide (HKS.out Y12 va vc es gr xa xc AD.out HK.out (by have := CE.out; rw [HNM.out] at this; exact this))
  go_wp2_with (first
    | (refine wpList_load_mid rfl 38 (.tmp 5) rfl b7 0 rfl [.int .i64 cd, .slice va nm vc, .slice xa ny xc] d3 RA hd3 hrow3 iMl ?_)
    | fail)
  refine HH.out.mono ?_
  rintro e Y13 ⟨rfl, nH⟩
  clear HH RA
  have NB' : Below b2 Y2 Y13 := nxt2 NB nH (Nat.le_trans lb2 NB.size)
  clear NB
  have NB := NB'
  clear NB'
  have N' := nxt N nH
  clear N
  have N := N'
  clear N'
  have Xb5' := hide (Xb5.out.up nH)
  clear Xb5
  have Xb5 := Xb5'
  clear Xb5'
  have Xb7' := hide (Xb7.out.up nH)
  clear Xb7
  have Xb7 := Xb7'
  clear Xb7'
  have HK' := hide (HK.out.up nH)
  clear HK
  have HK := HK'
  clear HK'
  clear nH
  go_upto_region 22 with fail
  have TB := hide (toByteS_any Y13 g0 a0 c0 X0 (HX.out.up N) q0)
  go_wp2_with fail
  refine TB.out.mono ?_
  rintro e Y14 ⟨rfl, hB, nB⟩
  clear TB
  obtain ⟨g9, hg9⟩ : ∃ g, Y13.heap.size = g := ⟨_, rfl⟩
  rw [hg9] at hB ⊢
  have lg9 : w.heap.size ≤ g9 := by rw [← hg9]; exact N.size
  have mg9 : b2 ≤ g9 := by rw [← hg9]; exact Nat.le_trans lb2 NB.size
  clear hg9
  have Xg9 := hide hB
  clear hB
  have NB' : Below b2 Y2 Y14 := nxt2 NB nB (Nat.le_trans lb2 NB.size)
  clear NB
  have NB := NB'
  clear NB'
  have N' := nxt N nB
  clear N
  have N := N'
  clear N'
  have Xb5' := hide (Xb5.out.up nB)
  clear Xb5
  have Xb5 := Xb5'
  clear Xb5'
  have Xb7' := hide (Xb7.out.up nB)
  clear Xb7
  have Xb7 := Xb7'
  clear Xb7'
  have HK' := hide (HK.out.up nB)
  clear HK
  have HK := HK'
  clear HK'
  clear nB
  have CI := hide (IM.out Y14 g9 Xg9.out)
  go_wp2_with fail
  refine CI.out.mono ?_
  rintro e Y15 ⟨⟨va', vc', es', gr', xa', xc', H', rfl, hA⟩, n5⟩
  clear CI Xg9 lg9 mg9
  have HA := hide hA
  clear hA
  have NB' : Below b2 Y2 Y15 := nxt2 NB n5 (Nat.le_trans lb2 NB.size)
  clear NB
  have NB := NB'
  clear NB'
  have N' := nxt N n5
  clear N
  have N := N'
  clear N'
  have Xb5' := hide (Xb5.out.up n5)
  clear Xb5
  have Xb5 := Xb5'
  clear Xb5'
  have Xb7' := hide (Xb7.out.up n5)
  clear Xb7
  have Xb7 := Xb7'
  clear Xb7'
  have HK' := hide (HK.out.up n5)
  clear HK
  have HK := HK'
  clear HK'
  clear n5
  have nA : Below Y15.heap.size Y15 (Y15.alloc (.cells #[.int .i64 0, .slice none 0 0, .slice none 0 0] 38)) := (Below.refl _ _).alloc (Nat.le_refl _) _
  have ZA : RwC (Y15.alloc (.cells #[.int .i64 0, .slice none 0 0, .slice none 0 0] 38)) Y15.heap.size [.int .i64 0, .slice none 0 0, .slice none 0 0] 38 := RwC.new Y15 _ _
  have OQ := only_setG (Y15.alloc (.cells #[.int .i64 0, .slice none 0 0, .slice none 0 0] 38)) Y15.heap.size [.int .i64 cd, .slice va' nm vc', .slice xa' ny xc'] 0
  have BX : RwC ((Y15.alloc (.cells #[.int .i64 0, .slice none 0 0, .slice none 0 0] 38)).setCells Y15.heap.size 0 [.int .i64 cd, .slice va' nm vc', .slice xa' ny xc']) Y15.heap.size [.int .i64 cd, .slice va' nm vc', .slice xa' ny xc'] 38 := ZA.put rfl
  have nS : Below Y15.heap.size Y15 ((Y15.alloc (.cells #[.int .i64 0, .slice none 0 0, .slice none 0 0] 38)).setCells Y15.heap.size 0 [.int .i64 cd, .slice va' nm vc', .slice xa' ny xc']) := nA.trans (OQ.below (Nat.le_refl _))
  have THR := ZA.thereG
  have ON : (#[.int .i64 cd, .slice va' nm vc', .slice xa' ny xc'] : Array Value).all (·.oneCell') = true := one3 _ _ _ _ _ _ _
  clear nA ZA OQ
  go_upto_region 23 with (refine wpList_store_mid rfl 38 (.tmp 9) (.tmp 53) rfl Y15.heap.size 0 #[.int .i64 cd, .slice va' nm vc', .slice xa' ny xc'] rfl rfl THR iMl ON ?_)
  clear THR ON
  generalize ((Y15.alloc (.cells #[.int .i64 0, .slice none 0 0, .slice none 0 0] 38)).setCells Y15.heap.size 0 [.int .i64 cd, .slice va' nm vc', .slice xa' ny xc']) = Y16 at *
  obtain ⟨b9, hb9⟩ : ∃ g, Y15.heap.size = g := ⟨_, rfl⟩
  have Xb9 : Hid (RwC Y16 Y15.heap.size [.int .i64 cd, .slice va' nm vc', .slice xa' ny xc'] 38) := BX
  clear BX
  rw [hb9] at Xb9 ⊢
  have wb9 : w.heap.size ≤ b9 := by rw [← hb9]; exact N.size
  clear hb9
  have NB' : Below b2 Y2 Y16 := nxt2 NB nS (Nat.le_trans lb2 NB.size)
  clear NB
  have NB := NB'
  clear NB'
  have N' := nxt N nS
  clear N
  have N := N'
  clear N'
  have Xb5' := hide (Xb5.out.up nS)
  clear Xb5
  have Xb5 := Xb5'
  clear Xb5'
  have Xb7' := hide (Xb7.out.up nS)
  clear Xb7
  have Xb7 := Xb7'
  clear Xb7'
  have HK' := hide (HK.out.up nS)
  clear HK
  have HK := HK'
  clear HK'
  have HA' := hide (HA.out.up nS)
  clear HA
  have HA := HA'
  clear HA'
  clear nS
  obtain ⟨qA, rA⟩ := An.rd (show An Y16 _ _ _ (.slice va' ms.length vc') ms es' gr' xa' ys by rw [HNM.out]; exact HA.out)
  have RA := Xb9.out.rangeG
  have RB := Xb5.out.rangeG
  have EQ := hide (EQS.out Y16 qA gq va' aq vc' cq _ _ rA (HUP.out Y16 NB).1 gr' gy xa' ay xc' cy HA.out.r.rd (HUP.out Y16 NB).2)
  clear rA
  go_wp2_with (first
    | (refine wpList_load_mid rfl 38 (.tmp 9) rfl b9 0 rfl [.int .i64 cd, .slice va' nm vc', .slice xa' ny xc'] d3 RA hd3 hrow3 iMl ?_)
    | (refine wpList_load_mid rfl 38 (.tmp 3) rfl b5 0 rfl [.int .i64 cd, .slice aq nm cq, .slice ay ny cy] d3 RB hd3 hrow3 iMl ?_)
    | fail)
  refine EQ.out.mono ?_
  rintro e Y17 ⟨rfl, nQ⟩
  clear EQ RA RB
  have NB' : Below b2 Y2 Y17 := nxt2 NB nQ (Nat.le_trans lb2 NB.size)
  clear NB
  have NB := NB'
  clear NB'
  have N' := nxt N nQ
  clear N
  have N := N'
  clear N'
  have Xb5' := hide (Xb5.out.up nQ)
  clear Xb5
  have Xb5 := Xb5'
  clear Xb5'
  have Xb7' := hide (Xb7.out.up nQ)
  clear Xb7
  have Xb7 := Xb7'
  clear Xb7'
  have HK' := hide (HK.out.up nQ)
  clear HK
  have HK := HK'
  clear HK'
  have HA' := hide (HA.out.up nQ)
  clear HA
  have HA := HA'
  clear HA'
  have Xb9' := hide (Xb9.out.up nQ)
  clear Xb9
  have Xb9 := Xb9'
  clear Xb9'
  clear nQ
  clear HA Xb9
  go_upto_region 26 with fail
  have RA := Xb7.out.rangeG
  have HH := hide (HKS.out Y17 va vc es gr xa xc AD.out HK.out (by have := CE.out; rw [HNM.out] at this; exact this))
  go_wp2_with (first
    | (refine wpList_load_mid rfl 38 (.tmp 5) rfl b7 0 rfl [.int .i64 cd, .slice va nm vc, .slice xa ny xc] d3 RA hd3 hrow3 iMl ?_)
    | fail)
  refine HH.out.mono ?_
  rintro e Y18 ⟨rfl, nH⟩
  clear HH RA
  have NB' : Below b2 Y2 Y18 := nxt2 NB nH (Nat.le_trans lb2 NB.size)
  clear NB
  have NB := NB'
  clear NB'
  have N' := nxt N nH
  clear N
  have N := N'
  clear N'
  have Xb5' := hide (Xb5.out.up nH)
  clear Xb5
  have Xb5 := Xb5'
  clear Xb5'
  have Xb7' := hide (Xb7.out.up nH)
  clear Xb7
  have Xb7 := Xb7'
  clear Xb7'
  have HK' := hide (HK.out.up nH)
  clear HK
  have HK := HK'
  clear HK'
  clear nH
  have FIN := hide N
  clear N NB Xb5 Xb7 HK HUP SP IM EQS MKS HKS
  go_wp2
  go_ret
  exact ⟨rfl, FIN.out⟩
end Go.Proofs.YtdnkgmlidhepbaaGreat
