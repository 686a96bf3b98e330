import Derived.Test.YtdbgdiahddpgkaaGreatGE14
import Derived.Deep.RegionHeld3

/-
  Messages: Hello's body.
-/
namespace Go.Proofs.YtdbgdiahddpgkaaGreat
open Go Go.RowKit

/-- What Hello has behind a ticket. -/
def bdL (t : List Int) (ag ea : Int) (b : List Int) : List Int := if t.length = 0 then [] else bigL ag 4 ++ (bigL ea 1 ++ b)
/-- Hello's bytes. -/
def heL (v : Int) (r s : List Int) (ho : List UInt8) (pr : List (List UInt8)) (t : List Int) (ag ea : Int) (b : List Int) : List Int := fpL v r s ++ (shL ho ++ (lsL pr ++ (loL t ++ bdL t ag ea b)))
set_option maxHeartbeats 4000000 in
theorem helloBody_any (w : World) (q : Nat) (v : Int) (l1 l2 l3 l4 : Lst) (ho : List UInt8) (g : Nat) (a : Option Addr) (c : Nat) (ls : List (List UInt8)) (ag ea : Int)
    (h0 : w.cell? ⟨q, 0, none⟩ = some (.int .i64 v)) (h1 : w.cell? ⟨q, 1, none⟩ = some (.slice l1.a l1.xs.length l1.c)) (h2 : w.cell? ⟨q, 2, none⟩ = some (.slice l2.a l2.xs.length l2.c)) (h3 : w.cell? ⟨q, 3, none⟩ = some (.string ⟨⟨ho⟩⟩)) (h4 : w.cell? ⟨q, 4, none⟩ = some (.slice a ls.length c))
    (h5 : w.cell? ⟨q, 5, none⟩ = some (.slice l3.a l3.xs.length l3.c)) (h6 : w.cell? ⟨q, 6, none⟩ = some (.int .i64 ag)) (h7 : w.cell? ⟨q, 7, none⟩ = some (.int .i64 ea)) (h8 : w.cell? ⟨q, 8, none⟩ = some (.slice l4.a l4.xs.length l4.c))
    (H1 : LstR w l1) (H2 : LstR w l2) (H3 : LstR w l3) (H4 : LstR w l4) (H : TxsR w g a ls) (hh : ho.length ≤ 1048576) :
    Calls Tryz.prog 77 #[.pointer (some ⟨q, 0, none⟩)] w (BodP w (heL v l1.xs l2.xs ho ls l3.xs ag ea l4.xs)) := by
  obtain ⟨i0, hi, hz0, hz1, hz2⟩ := info_parts Tryz.info5
  have e1 := fpL_len v l1.xs l2.xs
  have m1 := H1.m
  have m2 := H2.m
  have m3 := H3.m
  have m4 := H4.m
  have lf : (fpL v l1.xs l2.xs).length ≤ 2097153 := by omega
  have lt := shL_len ho
  have ll := lsL_len ls H.n H.z
  have l3l := loL_len l3.xs
  have EE := hide (show heL v l1.xs l2.xs ho ls l3.xs ag ea l4.xs = fpL v l1.xs l2.xs ++ (shL ho ++ (lsL ls ++ (loL l3.xs ++ bdL l3.xs ag ea l4.xs))) from rfl)
  clear e1 m1 m2
  generalize heL v l1.xs l2.xs ho ls l3.xs ag ea l4.xs = out at *
  go_enter Tryz.func77, Tryz.ntmps77
  go_upto_region 1 with fail
  refine region_callA 8 _ _ (fun i => [Fact.eq (.pointer (some ⟨q, 0, none⟩)), Fact.eq (.pointer (some ⟨q, 0, none⟩)), Fact.eq (.pointer (some ⟨q, 0, none⟩)), RBf w.heap.size (fpL v l1.xs l2.xs), Fact.eq (.pointer (some ⟨q, 0, none⟩)), Fact.eq (.pointer (some ⟨q, 0, none⟩)), Fact.eq (.pointer (some ⟨q, 3, none⟩)), Fact.eq (.string ⟨⟨ho⟩⟩)].getD i Fact.no) (by kernel_rfl) (by kernel_rfl) rfl rfl rfl 12 3 rfl rfl rfl (by show (12 : Nat) < 50; decide) (by show (3 : Nat) < 50; decide) ?_ 81 _ _ rfl (by kernel_rfl) ?_
  · intro i hi
    obtain rfl | rfl | rfl | rfl | rfl | rfl | rfl | rfl : i = 0 ∨ i = 1 ∨ i = 2 ∨ i = 3 ∨ i = 4 ∨ i = 5 ∨ i = 6 ∨ i = 7 := by omega
    · refine step_pure rfl fun A ww hb hw hf => ?_
      have e0 : A.tmps[0]?.getD undef = .pointer (some ⟨q, 0, none⟩) := gdv (hb.2.2 0 (by kernel_rfl))
      exact ⟨.pointer (some ⟨q, 0, none⟩), by simp [go_sem, e0], rfl⟩
    · refine step_pure rfl fun A ww hb hw hf => ?_
      have e0 : A.tmps[4]?.getD undef = .pointer (some ⟨q, 0, none⟩) := gdv (hf 0 4 (by kernel_rfl))
      exact ⟨.pointer (some ⟨q, 0, none⟩), by simp [go_sem, e0], rfl⟩
    · refine step_pure rfl fun A ww hb hw hf => ?_
      have e0 : A.tmps[5]?.getD undef = .pointer (some ⟨q, 0, none⟩) := gdv (hf 1 5 (by kernel_rfl))
      exact ⟨.pointer (some ⟨q, 0, none⟩), by simp [go_sem, e0], rfl⟩
    · refine step_callv rfl 82 _ _ rfl (by kernel_rfl) fun A ww hb hw hf => ?_
      have e6 : A.tmps.getD 6 undef = .pointer (some ⟨q, 0, none⟩) := hf 2 6 (by kernel_rfl)
      show Calls Tryz.prog 82 #[A.tmps.getD 6 undef] ww _
      rw [e6]
      refine (firstBody_any ww q v l1 l2 (cellq hw h0) (cellq hw h1) (cellq hw h2) (H1.up hw).r (H2.up hw).r H1.z H2.z H1.m H2.m).mono ?_
      rintro r w' ⟨⟨x, rfl, R⟩, n⟩
      exact ⟨x, rfl, n, R.base hw.size⟩
    · refine step_pure rfl fun A ww hb hw hf => ?_
      have e0 : A.tmps[0]?.getD undef = .pointer (some ⟨q, 0, none⟩) := gdv (hb.2.2 0 (by kernel_rfl))
      exact ⟨.pointer (some ⟨q, 0, none⟩), by simp [go_sem, e0], rfl⟩
    · refine step_pure rfl fun A ww hb hw hf => ?_
      have e0 : A.tmps[8]?.getD undef = .pointer (some ⟨q, 0, none⟩) := gdv (hf 4 8 (by kernel_rfl))
      exact ⟨.pointer (some ⟨q, 0, none⟩), by simp [go_sem, e0], rfl⟩
    · refine step_pure rfl fun A ww hb hw hf => ?_
      have e0 : A.tmps[9]?.getD undef = .pointer (some ⟨q, 0, none⟩) := gdv (hf 5 9 (by kernel_rfl))
      exact ⟨.pointer (some ⟨q, 3, none⟩), by simp [go_sem, e0], rfl⟩
    · refine step_pure rfl fun A ww hb hw hf => ?_
      have e0 : A.tmps[10]?.getD undef = .pointer (some ⟨q, 3, none⟩) := gdv (hf 6 10 (by kernel_rfl))
      have hc : ww.cell? ⟨q, 3, none⟩ = some (.string ⟨⟨ho⟩⟩) := cellq hw h3
      exact ⟨.string ⟨⟨ho⟩⟩, by simp [go_sem, e0, hc], rfl⟩
  intro A W hb hw hF
  have e7 : RowB W w.heap.size (A.tmps.getD 7 undef) (fpL v l1.xs l2.xs) := hF 3 7 (by kernel_rfl) (by kernel_rfl)
  have e11 : A.tmps.getD 11 undef = .string ⟨⟨ho⟩⟩ := hF 7 11 (by kernel_rfl) (by kernel_rfl)
  show Calls Tryz.prog 81 #[A.tmps.getD 7 undef, A.tmps.getD 11 undef] W _
  rw [e11]
  refine (appendShort_any W w.heap.size _ (fpL v l1.xs l2.xs) e7 hw.size ho (by omega) hh).mono ?_
  rintro r w1 ⟨x1, rfl, R1, n1⟩
  refine ⟨x1, rfl, fun vs e2 => ?_⟩
  have N1 := hw.trans n1
  clear hb hF h0 h1 h2 h3 e7 e11 n1 hw H1 H2
  simp only [puts, e2, Act.put, List.setIfInBounds_toArray, List.set_cons_succ, List.set_cons_zero]
  -- the protocols
  have k4 := cellq N1 h4
  have C2 := hide (appendShorts_any w1 w.heap.size x1 _ R1 N1.size g a c ls (H.up N1).r H.g (by rw [List.length_append]; omega) H.n H.z)
  clear R1 h4 H
  go_wp2_with fail
  refine C2.out.mono ?_
  rintro r w2 ⟨x2, rfl, R2, n2⟩
  have N2 := N1.trans n2
  clear N1 n2 C2 k4
  -- the ticket
  have k5 := cellq N2 h5
  have C3 := hide (appendLong_any w2 w.heap.size x2 _ R2 N2.size l3.g l3.a l3.c l3.xs (H3.up N2).r H3.z H3.g (by rw [List.length_append, List.length_append]; omega) H3.m)
  clear R2
  go_wp2_with fail
  refine C3.out.mono ?_
  rintro r w3 ⟨x3, rfl, R3, n3⟩
  have N3 := N2.trans n3
  clear N2 n3 C3 k5
  replace h5 := cellq N3 h5
  by_cases t0 : l3.xs.length = 0
  · have d0 : ((l3.xs.length : Int) == 0) = true := beq_iff_eq.2 (by omega)
    have ER : out = fpL v l1.xs l2.xs ++ shL ho ++ lsL ls ++ loL l3.xs := by
      rw [EE.out, bdL, if_pos t0]
      simp only [List.append_nil, List.append_assoc]
    rw [← ER] at R3
    clear ER EE
    go_wp2
    go_ret
    exact ⟨⟨_, rfl, R3⟩, N3⟩
  · have d0 : ((l3.xs.length : Int) == 0) = false := beq_eq_false_iff_ne.2 (by omega)
    have k6 := cellq N3 h6
    have b4 := bigL_len ag 4
    have b1 := bigL_len ea 1
    have C4 := hide (appendNumber_any w3 w.heap.size x3 _ R3 N3.size ag 4 (by decide) (by simp only [List.length_append]; omega))
    clear R3
    go_wp2_with fail
    refine C4.out.mono ?_
    rintro r w4 ⟨x4, rfl, R4, n4⟩
    have N4 := N3.trans n4
    clear n4 C4 k6 h5 h6
    have k7 := cellq N4 h7
    have C5 := hide (appendNumber_any w4 w.heap.size x4 _ R4 N4.size ea 1 (by decide) (by simp only [List.length_append]; omega))
    clear R4
    go_wp2_with fail
    refine C5.out.mono ?_
    rintro r w5 ⟨x5, rfl, R5, n5⟩
    have N5 := N4.trans n5
    clear N4 n5 C5 k7 h7
    have k8 := cellq N5 h8
    obtain ⟨x6, w6, hap, R6, n6⟩ := append_any (P := Tryz.prog) w5 22 i0 Tryz.underlying22 hi hz0 hz1 hz2 w.heap.size w.heap.size _ _ R5 l4.g l4.a l4.c l4.xs (H4.up N5).r H4.z (by simp only [List.length_append]; omega) (Nat.le_refl _) N5.size
    have N6 := N5.trans n6
    have ER : out = fpL v l1.xs l2.xs ++ shL ho ++ lsL ls ++ loL l3.xs ++ bigL ag 4 ++ bigL ea 1 ++ l4.xs := by
      rw [EE.out, bdL, if_neg t0]
      simp only [List.append_assoc]
    rw [← ER] at R6
    clear ER EE R5 n6 N5 N3 H3 H4
    go_wp2_with (at_builtin; refine Lib.wpList_append_run _ rfl _ _ 22 22 rfl _ _ rfl rfl _ _ hap ?_)
    go_ret
    exact ⟨⟨_, rfl, R6⟩, N6⟩
end Go.Proofs.YtdbgdiahddpgkaaGreat

/-
  Messages: the model's bodies that grow beside the box of the message: Answer.
-/
namespace Go.Proofs.YtdbgdiahddpgkaaGreat
open Go Go.RowKit

/-- An append as one step, told as what it gives. -/
theorem step_append_exM {P : Program} {ops : Array Oper} {o : Oper} {a : Act} {w : World} {K : Act → World → Prop} {Q : Exit → Act → World → Prop} {E : Prop} (hg : o.guard = none) (s x : Operand) (t tn : TypeId)
    (ho : o.op = .call { callee := .builtin .append, args := #[s, x], argTypes := #[t, tn] }) (vs vx : Value) (hs : a.eval s = vs) (hx : a.eval x = vx) (R : Value → World → Prop)
    (H : ∃ v' w', (Builtin.append_ #[t, tn] o.type #[vs, vx]).run P w = .ok v' w' ∧ R v' w') (hK : ∀ v' w', R v' w' → K (a.put o.dst v') w') :
    if Region.wanted o (yielded ops a.tmps) = true then Oper.wp P o a w K Q else E := by
  have hw : Region.wanted o (yielded ops a.tmps) = true := by simp [Region.wanted, hg]
  rw [if_pos hw]
  obtain ⟨v', w', hr, hR⟩ := H
  exact Lib.wp_append_run w s x t tn ho vs vx hs hx v' w' hr (hK v' w' hR)
/-- The message in its box, and a row that grows behind it. -/
structure Gr (w : World) (cs : List Value) (W : World) (v : Value) (xs : List Int) : Prop where
  n : Below w.heap.size w W
  c : RwC W w.heap.size cs 31
  r : RowB W (w.heap.size + 1) v xs
theorem Gr.up {w W W' : World} {cs : List Value} {v : Value} {xs : List Int} (h : Gr w cs W v xs) (m : Below W.heap.size W W') : Gr w cs W' v xs := ⟨nxt h.n m, h.c.up m, h.r.up m⟩
theorem Gr.app {w W : World} {cs : List Value} {v : Value} {xs : List Int} (h : Gr w cs W v xs) (g : Nat) (a : Option Addr) (c : Nat) (us : List Int) (hr : Rd W g a .u8 us) (hc : a = none → c = 0) (hl : xs.length + us.length ≤ 1099511627776) :
    ∃ v' w', (Builtin.append_ #[22, 22] 22 #[v, .slice a us.length c]).run Tryz.prog W = .ok v' w' ∧ (Gr w cs w' v' (xs ++ us) ∧ Below (w.heap.size + 1) W w') := by
  obtain ⟨i0, hi, hz0, hz1, hz2⟩ := info_parts Tryz.info5
  have l := h.c.lt
  obtain ⟨v', w', h1, h2, h3⟩ := append_any (P := Tryz.prog) W 22 i0 Tryz.underlying22 hi hz0 hz1 hz2 (w.heap.size + 1) (w.heap.size + 1) v xs h.r g a c us hr hc hl (Nat.le_refl _) (by omega)
  exact ⟨v', w', h1, ⟨h.n.trans (h3.mono (by omega)), (h3.block w.heap.size (by omega)).trans h.c, h2⟩, h3⟩
theorem Gr.list {w W : World} {cs : List Value} {v : Value} {xs : List Int} (h : Gr w cs W v xs) {l : Lst} (H : LstR w l) : LstR W l := H.up h.n
theorem Gr.start (w : World) (cs : List Value) : Gr w cs ((w.alloc (.cells cs.toArray 31)).alloc (.cells #[] 5)) (.slice (some ⟨w.heap.size + 1, 0, none⟩) 0 0) [] := by
  obtain ⟨n, c, r⟩ := boxed w cs 31
  exact ⟨n, c, r⟩
theorem Gr.body {w W : World} {cs : List Value} {v : Value} {xs : List Int} (h : Gr w cs W v xs) : BodP w xs (.returned v) W := ⟨⟨v, rfl, h.r.base (by omega)⟩, h.n⟩
/-- One byte behind the row. -/
theorem Gr.one {w W : World} {cs : List Value} {v : Value} {xs : List Int} (h : Gr w cs W v xs) (x : Int) (hl : xs.length ≤ 1099511627775) :
    ∃ v' w', (Builtin.append_ #[22, 22] 22 #[v, .slice (some ⟨W.heap.size, 0, none⟩) 1 1]).run Tryz.prog (W.alloc (.cells #[.int .u8 x] 5)) = .ok v' w' ∧ Gr w cs w' v' (xs ++ [x]) := by
  have na : Below W.heap.size W (W.alloc (.cells #[.int .u8 x] 5)) := (Below.refl _ _).alloc (Nat.le_refl _) _
  obtain ⟨v', w', h1, h2, -⟩ := (h.up na).app W.heap.size (some ⟨W.heap.size, 0, none⟩) 1 [x] (blk_lit1 W .u8 5 x).own0.rd (fun h => nomatch h) (by simp; omega)
  exact ⟨v', w', h1, h2⟩
set_option maxRecDepth 100000 in
set_option maxHeartbeats 4000000 in
theorem sbAnswer_any (w : World) (x4 x5 x6 x7 x8 x9 x11 x12 : Value) (v : Int) (v0 : 0 ≤ v) (v1 : v ≤ 255) (l2 l3 : Lst) (H2 : LstR w l2) (H3 : LstR w l3) (rs : Bool) :
    Calls Tryz.prog 33 #[.agg #[.int .i64 2, .int .i64 v, .slice l2.a l2.xs.length l2.c, .slice l3.a l3.xs.length l3.c, x4, x5, x6, x7, x8, x9, .bool rs, x11, x12]] w (BodP w (fpL v l2.xs l3.xs ++ [if rs = true then 1 else 0])) := by
  have G0 := Gr.start w [.int .i64 2, .int .i64 v, .slice l2.a l2.xs.length l2.c, .slice l3.a l3.xs.length l3.c, x4, x5, x6, x7, x8, x9, .bool rs, x11, x12]
  have FE : Hid (fpL v l2.xs l3.xs = ([v] ++ l2.xs) ++ l3.xs) := by show _ = _; unfold fpL; rw [big1 v v0 v1, List.append_assoc]
  rw [FE.out]
  obtain ⟨OUT, hO'⟩ : ∃ l : List Int, l = (([v] ++ l2.xs) ++ l3.xs) ++ [if rs = true then 1 else 0] := ⟨_, rfl⟩
  rw [← hO']
  have hO := hide hO'
  clear hO'
  have m2 := H2.m
  have m3 := H3.m
  have k0 := G0.c.cell 0
  have z1 : (w.alloc (.cells #[.int .i64 2, .int .i64 v, .slice l2.a l2.xs.length l2.c, .slice l3.a l3.xs.length l3.c, x4, x5, x6, x7, x8, x9, .bool rs, x11, x12] 31)).heap.size = w.heap.size + 1 := by simp
  go_enter Tryz.func33, Tryz.ntmps33
  go_upto_region 13 with fail
  clear k0 z1
  obtain ⟨vR, hvR⟩ : ∃ x, x = Value.slice (some ⟨w.heap.size + 1, 0, none⟩) 0 0 := ⟨_, rfl⟩
  rw [← hvR] at G0 ⊢
  clear hvR
  generalize (w.alloc (.cells #[.int .i64 2, .int .i64 v, .slice l2.a l2.xs.length l2.c, .slice l3.a l3.xs.length l3.c, x4, x5, x6, x7, x8, x9, .bool rs, x11, x12] 31)).alloc (.cells #[] 5) = W2 at *
  have c1 := G0.c.cell 1
  obtain ⟨v1', W3, hap, G1⟩ := G0.one v (by simp)
  have v256 : v < 256 := by omega
  clear G0
  go_upto_region 14 with (at_builtin; refine Lib.wpList_append_run _ rfl _ _ 22 22 rfl _ _ rfl rfl _ _ hap ?_)
  clear hap c1
  rw [List.nil_append] at G1
  have nd : Below W3.heap.size W3 W3.drew := (Below.refl _ _).drew
  have G2 := G1.up nd
  have A68 := hide (G2.app l2.g l2.a l2.c l2.xs (G2.list H2).r H2.z (by simp; omega))
  have A71 : Hid (∀ v' W, Gr w #[.int .i64 2, .int .i64 v, .slice l2.a l2.xs.length l2.c, .slice l3.a l3.xs.length l3.c, x4, x5, x6, x7, x8, x9, .bool rs, x11, x12].toList W v' ([v] ++ l2.xs) → ∃ v'' w', (Builtin.append_ #[22, 22] 22 #[v', .slice l3.a l3.xs.length l3.c]).run Tryz.prog W = .ok v'' w' ∧ (Gr w #[.int .i64 2, .int .i64 v, .slice l2.a l2.xs.length l2.c, .slice l3.a l3.xs.length l3.c, x4, x5, x6, x7, x8, x9, .bool rs, x11, x12].toList w' v'' (([v] ++ l2.xs) ++ l3.xs) ∧ Below (w.heap.size + 1) W w')) := fun v' W h => h.app l3.g l3.a l3.c l3.xs (h.list H3).r H3.z (by simp; omega)
  have CY : Hid (∀ W v' zs, Gr w #[.int .i64 2, .int .i64 v, .slice l2.a l2.xs.length l2.c, .slice l3.a l3.xs.length l3.c, x4, x5, x6, x7, x8, x9, .bool rs, x11, x12].toList W v' zs → (W.cell? ⟨w.heap.size, 2, none⟩ = some (.slice l2.a l2.xs.length l2.c) ∧ W.cell? ⟨w.heap.size, 3, none⟩ = some (.slice l3.a l3.xs.length l3.c))) := fun W v' zs h => ⟨h.c.cell 2, h.c.cell 3⟩
  go_region_held3 (fun W => W.cell? ⟨w.heap.size, 2, none⟩ = some (.slice l2.a l2.xs.length l2.c) ∧ W.cell? ⟨w.heap.size, 3, none⟩ = some (.slice l3.a l3.xs.length l3.c))
    (first | exact (unhide CY) _ _ _ G2 | exact (unhide CY) _ _ _ G3 | exact (unhide CY) _ _ _ G4)
    (first
      | (refine step_append_exM rfl (.tmp 65) (.tmp 67) 22 22 rfl v1' (.slice l2.a l2.xs.length l2.c) rfl rfl _ A68.out ?_; rintro v68 w68 ⟨G3, -⟩; (have B71 := hide ((unhide A71) v68 w68 G3)))
      | (refine step_append_exM rfl (.tmp 68) (.tmp 70) 22 22 rfl v68 (.slice l3.a l3.xs.length l3.c) rfl rfl _ B71.out ?_; rintro v71 w71 ⟨G4, -⟩)
      | fail)
  clear A68 A71 B71 CY G1 G2 G3 nd
  have c10 := G4.c.cell 10
  obtain ⟨ZZ, hZZ⟩ : ∃ l, l = ([v] ++ l2.xs) ++ l3.xs := ⟨_, rfl⟩
  have lZ : Hid (ZZ.length ≤ 2097153) := by show _ ≤ _; rw [hZZ]; simp; omega
  rw [← hZZ] at G4 hO
  clear hZZ FE
  cases rs with
  | true =>
    obtain ⟨v5, w5, hap, G5⟩ := G4.one 1 (by have := lZ.out; omega)
    have FIN : Hid (BodP w OUT (.returned v5) w5) := by show BodP _ _ _ _; rw [hO.out]; exact G5.body
    clear G4 G5
    go_wp2_with (at_builtin; refine Lib.wpList_append_run _ rfl _ _ 22 22 rfl _ _ rfl rfl _ _ hap ?_)
    go_ret
    exact FIN.out
  | false =>
    obtain ⟨v5, w5, hap, G5⟩ := G4.one 0 (by have := lZ.out; omega)
    have FIN : Hid (BodP w OUT (.returned v5) w5) := by show BodP _ _ _ _; rw [hO.out]; exact G5.body
    clear G4 G5
    go_wp2_with (at_builtin; refine Lib.wpList_append_run _ rfl _ _ 22 22 rfl _ _ rfl rfl _ _ hap ?_)
    go_ret
    exact FIN.out
end Go.Proofs.YtdbgdiahddpgkaaGreat

/-
  Messages: the model's bodies of Ticket and Extras.
-/
namespace Go.Proofs.YtdbgdiahddpgkaaGreat
open Go Go.RowKit

/-- A list told by a row that may be read. -/
theorem row_slice {w : World} {b : Nat} {v : Value} {xs : List Int} (R : RowB w b v xs) : ∃ (a : Option Addr) (c g : Nat), v = .slice a xs.length c ∧ Rd w g a .u8 xs ∧ (a = none → c = 0) := by
  obtain ⟨a, c, g, e, r, z, -, -⟩ := R.rd
  exact ⟨a, c, g, e, r, z⟩
theorem Gr.row {w W : World} {cs : List Value} {v : Value} {xs : List Int} (h : Gr w cs W v xs) {b : Nat} {u : Value} {us : List Int} (R : RowB W b u us) (hl : xs.length + us.length ≤ 1099511627776) :
    ∃ v' w', (Builtin.append_ #[22, 22] 22 #[v, u]).run Tryz.prog W = .ok v' w' ∧ Gr w cs w' v' (xs ++ us) := by
  obtain ⟨a, c, g, e, r, z⟩ := row_slice R
  obtain ⟨v', w', h1, h2, -⟩ := h.app g a c us r z hl
  rw [e]
  exact ⟨v', w', h1, h2⟩
set_option maxRecDepth 100000 in
set_option maxHeartbeats 4000000 in
theorem sbTicket_any (w : World) (x1 x3 x4 x5 x9 x10 x11 x12 : Value) (ag ea : Int) (a0 : 0 ≤ ag) (a1 : ag < 9223372036854775808) (e0 : 0 ≤ ea) (e1 : ea < 9223372036854775808) (l2 l6 : Lst) (H2 : LstR w l2) (H6 : LstR w l6) :
    Calls Tryz.prog 33 #[.agg #[.int .i64 4, x1, .slice l2.a l2.xs.length l2.c, x3, x4, x5, .slice l6.a l6.xs.length l6.c, .int .i64 ag, .int .i64 ea, x9, x10, x11, x12]] w (BodP w (tkL ag ea l2.xs l6.xs)) := by
  have G0 := Gr.start w #[.int .i64 4, x1, .slice l2.a l2.xs.length l2.c, x3, x4, x5, .slice l6.a l6.xs.length l6.c, .int .i64 ag, .int .i64 ea, x9, x10, x11, x12].toList
  have m2 := H2.m
  have m6 := H6.m
  obtain ⟨OUT, hO'⟩ : ∃ l : List Int, l = tkL ag ea l2.xs l6.xs := ⟨_, rfl⟩
  rw [← hO']
  have hO := hide hO'
  clear hO'
  have k0 := G0.c.cell 0
  have z1 : (w.alloc (.cells #[.int .i64 4, x1, .slice l2.a l2.xs.length l2.c, x3, x4, x5, .slice l6.a l6.xs.length l6.c, .int .i64 ag, .int .i64 ea, x9, x10, x11, x12] 31)).heap.size = w.heap.size + 1 := by simp
  go_enter Tryz.func33, Tryz.ntmps33
  go_upto_region 19 with fail
  clear k0 z1
  obtain ⟨vR, hvR⟩ : ∃ x, x = Value.slice (some ⟨w.heap.size + 1, 0, none⟩) 0 0 := ⟨_, rfl⟩
  rw [← hvR] at G0 ⊢
  clear hvR
  generalize (w.alloc (.cells #[.int .i64 4, x1, .slice l2.a l2.xs.length l2.c, x3, x4, x5, .slice l6.a l6.xs.length l6.c, .int .i64 ag, .int .i64 ea, x9, x10, x11, x12] 31)).alloc (.cells #[] 5) = W2 at *
  have c7 := G0.c.cell 7
  have L1 := hide (l1BigB_any W2 ag 4 a0 a1 (by decide))
  go_wp2_with fail
  refine L1.out.mono ?_
  rintro e W3 ⟨rfl, R3, n3⟩
  obtain ⟨v4, W4, hap, G1⟩ := (G0.up n3).row R3 (by rw [bigL_len]; simp)
  rw [List.nil_append] at G1
  have c8 := G1.c.cell 8
  have L2 := hide (l1BigB_any W4 ea 4 e0 e1 (by decide))
  clear G0 R3 n3 L1 c7
  go_wp2_with (at_builtin; refine Lib.wpList_append_run _ rfl _ _ 22 22 rfl _ _ rfl rfl _ _ hap ?_)
  clear hap
  refine L2.out.mono ?_
  rintro e W5 ⟨rfl, R5, n5⟩
  obtain ⟨v6, W6, hap, G2⟩ := (G1.up n5).row R5 (by rw [bigL_len, bigL_len]; simp)
  clear G1 R5 n5 L2 c8
  go_upto_region 21 with (at_builtin; refine Lib.wpList_append_run _ rfl _ _ 22 22 rfl _ _ rfl rfl _ _ hap ?_)
  clear hap
  obtain ⟨BB, hBB⟩ : ∃ l, l = bigL ag 4 ++ bigL ea 4 := ⟨_, rfl⟩
  have lB : Hid (BB.length = 8) := by show _ = _; rw [hBB, List.length_append, bigL_len, bigL_len]
  rw [← hBB] at G2
  have hO2 : Hid (OUT = (BB ++ l2.xs) ++ loL l6.xs) := by show _ = _; rw [hO.out, hBB]; rfl
  clear hBB hO
  have nd : Below W6.heap.size W6 W6.drew := (Below.refl _ _).drew
  have G3 := G2.up nd
  have A95 := hide (G3.app l2.g l2.a l2.c l2.xs (G3.list H2).r H2.z (by rw [lB.out]; omega))
  have A98 : Hid (∀ v' W zs, Gr w #[.int .i64 4, x1, .slice l2.a l2.xs.length l2.c, x3, x4, x5, .slice l6.a l6.xs.length l6.c, .int .i64 ag, .int .i64 ea, x9, x10, x11, x12].toList W v' zs → Calls Tryz.prog 44 #[.slice l6.a l6.xs.length l6.c] W (BodP W (loL l6.xs))) := fun v' W zs h => l13Long_any W l6 (h.list H6)
  have A99 : Hid (∀ v' W u b, Gr w #[.int .i64 4, x1, .slice l2.a l2.xs.length l2.c, x3, x4, x5, .slice l6.a l6.xs.length l6.c, .int .i64 ag, .int .i64 ea, x9, x10, x11, x12].toList W v' (BB ++ l2.xs) → RowB W b u (loL l6.xs) → ∃ v'' w', (Builtin.append_ #[22, 22] 22 #[v', u]).run Tryz.prog W = .ok v'' w' ∧ Gr w #[.int .i64 4, x1, .slice l2.a l2.xs.length l2.c, x3, x4, x5, .slice l6.a l6.xs.length l6.c, .int .i64 ag, .int .i64 ea, x9, x10, x11, x12].toList w' v'' ((BB ++ l2.xs) ++ loL l6.xs)) := fun v' W u b h R => h.row R (by rw [List.length_append, lB.out, loL_len]; omega)
  have CY : Hid (∀ W v' zs, Gr w #[.int .i64 4, x1, .slice l2.a l2.xs.length l2.c, x3, x4, x5, .slice l6.a l6.xs.length l6.c, .int .i64 ag, .int .i64 ea, x9, x10, x11, x12].toList W v' zs → (W.cell? ⟨w.heap.size, 2, none⟩ = some (.slice l2.a l2.xs.length l2.c) ∧ W.cell? ⟨w.heap.size, 6, none⟩ = some (.slice l6.a l6.xs.length l6.c))) := fun W v' zs h => ⟨h.c.cell 2, h.c.cell 6⟩
  go_region_held3 (fun W => W.cell? ⟨w.heap.size, 2, none⟩ = some (.slice l2.a l2.xs.length l2.c) ∧ W.cell? ⟨w.heap.size, 6, none⟩ = some (.slice l6.a l6.xs.length l6.c))
    (first | exact (unhide CY) _ _ _ G3 | exact (unhide CY) _ _ _ G4 | exact (unhide CY) _ _ _ G5 | exact (unhide CY) _ _ _ G6)
    (first
      | (refine step_append_exM rfl (.tmp 92) (.tmp 94) 22 22 rfl v6 (.slice l2.a l2.xs.length l2.c) rfl rfl _ A95.out ?_; rintro v95 w95 ⟨G4, -⟩; (have B98 := hide ((unhide A98) v95 w95 _ G4)))
      | (go_at_call 44; refine B98.out.mono ?_; rintro rr w98 ⟨⟨v98, rfl, R98⟩, n98⟩; (have G5 := G4.up n98); (have B99 := hide ((unhide A99) v95 w98 v98 _ G5 R98)))
      | (refine step_append_exM rfl (.tmp 95) (.tmp 98) 22 22 rfl v95 v98 rfl rfl _ B99.out ?_; rintro v99 w99 G6)
      | fail)
  have FIN : Hid (BodP w OUT (.returned v99) w99) := by show BodP _ _ _ _; rw [hO2.out]; exact G6.body
  clear A95 A98 A99 B98 B99 CY G2 G3 G4 G5 G6 nd R98 n98
  go_wp2
  go_ret
  exact FIN.out
set_option maxRecDepth 100000 in
set_option maxHeartbeats 4000000 in
theorem sbExtras_any (w : World) (x1 x2 x3 x4 x6 x7 x9 x10 x11 x12 : Value) (g : Nat) (a : Option Addr) (c : Nat) (ls : List (List UInt8)) (H : TxsR w g a ls) (hs : ∀ l ∈ ls, l.length ≤ 255) (ea : Int) (e0 : 0 ≤ ea) (e1 : ea ≤ 255) :
    Calls Tryz.prog 33 #[.agg #[.int .i64 8, x1, x2, x3, x4, .slice a ls.length c, x6, x7, .int .i64 ea, x9, x10, x11, x12]] w (BodP w (lsL ls ++ bigL ea 1)) := by
  obtain ⟨i0, hi, hz0, hz1, hz2⟩ := info_parts Tryz.info5
  have G0 := Gr.start w #[.int .i64 8, x1, x2, x3, x4, .slice a ls.length c, x6, x7, .int .i64 ea, x9, x10, x11, x12].toList
  obtain ⟨OUT, hO'⟩ : ∃ l : List Int, l = lsL ls ++ bigL ea 1 := ⟨_, rfl⟩
  rw [← hO']
  have hO : Hid (OUT = lsL ls ++ [ea]) := by show _ = _; rw [hO', big1 ea e0 e1]
  clear hO'
  have LL : Hid ((lsL ls).length ≤ 8388617) := lsL_len ls H.n H.z
  have k0 := G0.c.cell 0
  have z1 : (w.alloc (.cells #[.int .i64 8, x1, x2, x3, x4, .slice a ls.length c, x6, x7, .int .i64 ea, x9, x10, x11, x12] 31)).heap.size = w.heap.size + 1 := by simp
  have w8 : IntKind.u8.wrap ea = ea := by simp [IntKind.wrap, IntKind.signed, IntKind.bits]; omega
  go_enter Tryz.func33, Tryz.ntmps33
  go_upto_region 23 with fail
  clear k0 z1
  obtain ⟨vR, hvR⟩ : ∃ x, x = Value.slice (some ⟨w.heap.size + 1, 0, none⟩) 0 0 := ⟨_, rfl⟩
  rw [← hvR] at G0 ⊢
  clear hvR
  generalize (w.alloc (.cells #[.int .i64 8, x1, x2, x3, x4, .slice a ls.length c, x6, x7, .int .i64 ea, x9, x10, x11, x12] 31)).alloc (.cells #[] 5) = W2 at *
  have nd : Below W2.heap.size W2 W2.drew := (Below.refl _ _).drew
  have zz := G0.n.size
  have bA : ∀ {W : World}, Below W2.heap.size W2 W → ∀ o, Below W2.heap.size W2 (W.alloc o) := fun n o => n.alloc n.size o
  have CL : Hid (∀ W, Below W2.heap.size W2 W → Calls Tryz.prog 43 #[.slice a ls.length c] W fun e w' => ∃ v, e = .returned v ∧ RowB w' W2.heap.size v (lsL ls) ∧ Below W2.heap.size W2 w' ∧ Below W.heap.size W w') := fun W m => (l13List_any W g a c ls (H.up (nxt G0.n m)) hs).mono (by rintro e w' ⟨⟨v, rfl, R⟩, n⟩; exact ⟨v, rfl, R.base m.size, nxt m n, n⟩)
  have AP : Hid (∀ W v q, Below W2.heap.size W2 W → RowB W W2.heap.size v (lsL ls) → Rd W q (some ⟨q, 0, none⟩) .u8 [ea] → ∃ v' w', (Builtin.append_ #[22, 22] 22 #[v, .slice (some ⟨q, 0, none⟩) 1 1]).run Tryz.prog W = .ok v' w' ∧ (RowB w' W2.heap.size v' (lsL ls ++ [ea]) ∧ Below W2.heap.size W2 w')) := fun W v q m R r => by
    obtain ⟨v', w', h1, h2, h3⟩ := append_any (P := Tryz.prog) W 22 i0 Tryz.underlying22 hi hz0 hz1 hz2 W2.heap.size W2.heap.size v (lsL ls) R q (some ⟨q, 0, none⟩) 1 [ea] r (fun h => nomatch h) (by have := LL.out; simp; omega) (Nat.le_refl _) m.size
    exact ⟨v', w', h1, h2, m.trans h3⟩
  have CY : Hid (∀ W, Below W2.heap.size W2 W → (W.cell? ⟨w.heap.size, 5, none⟩ = some (.slice a ls.length c) ∧ W.cell? ⟨w.heap.size, 8, none⟩ = some (.int .i64 ea))) := fun W m => ⟨(G0.c.up m).cell 5, (G0.c.up m).cell 8⟩
  have C0 := hide ((unhide CL) W2.drew nd)
  have C1 := hide ((unhide CL) (W2.drew.alloc (.cells #[.int .u8 ea] 5)) (bA nd _))
  have rE : Rd (W2.drew.alloc (.cells #[.int .u8 ea] 5)) W2.heap.size (some ⟨W2.heap.size, 0, none⟩) .u8 [ea] := (blk_lit1 W2.drew .u8 5 ea).own0.rd
  go_region_held3 (fun W => W.cell? ⟨w.heap.size, 5, none⟩ = some (.slice a ls.length c) ∧ W.cell? ⟨w.heap.size, 8, none⟩ = some (.int .i64 ea))
    (first | exact (unhide CY) _ nd | exact (unhide CY) _ (bA nd _) | exact (unhide CY) _ n104 | exact (unhide CY) _ (bA n104 _) | exact (unhide CY) _ n109)
    (first
      | (go_at_call 43; refine C0.out.mono ?_; rintro rr w104 ⟨v104, rfl, R104, n104, m104⟩; (have B109a := hide ((unhide AP) (w104.alloc (.cells #[.int .u8 ea] 5)) v104 w104.heap.size (bA n104 _) (R104.up ((Below.refl _ _).alloc (Nat.le_refl _) _)) (blk_lit1 w104 .u8 5 ea).own0.rd)))
      | (go_at_call 43; refine C1.out.mono ?_; rintro rr w104 ⟨v104, rfl, R104, n104, m104⟩; (have B109b := hide ((unhide AP) w104 v104 W2.heap.size n104 R104 (rE.up m104))))
      | (refine step_append_exM rfl (.tmp 104) (.tmp 108) 22 22 rfl v104 (.slice (some ⟨w104.heap.size, 0, none⟩) 1 1) rfl rfl _ B109a.out ?_; rintro v109 w109 ⟨R109, n109⟩)
      | (refine step_append_exM rfl (.tmp 104) (.tmp 108) 22 22 rfl v104 (.slice (some ⟨W2.heap.size, 0, none⟩) 1 1) rfl rfl _ B109b.out ?_; rintro v109 w109 ⟨R109, n109⟩)
      | fail)
  all_goals
    have FIN : Hid (BodP w OUT (.returned v109) w109) := ⟨⟨v109, rfl, by rw [hO.out]; exact R109.base zz⟩, nxt G0.n n109⟩
    clear C0 C1 CL AP CY R104 m104 n104 R109 n109 G0 nd bA rE
    go_wp2
    go_ret
    exact FIN.out
end Go.Proofs.YtdbgdiahddpgkaaGreat

/-
  Messages: the model's body of Hello (written by gens/mip.py).
-/
namespace Go.Proofs.YtdbgdiahddpgkaaGreat
open Go Go.RowKit

set_option maxRecDepth 100000 in
set_option maxHeartbeats 8000000 in
theorem sbHello_any (w : World) (x10 x11 x12 : Value) (v : Int) (v0 : 0 ≤ v) (v1 : v ≤ 255) (l2 l3 l6 l9 : Lst) (H2 : LstR w l2) (H3 : LstR w l3) (H6 : LstR w l6) (H9 : LstR w l9) (ho : List UInt8) (hh : ho.length ≤ 255) (g : Nat) (a : Option Addr) (c : Nat) (ls : List (List UInt8)) (H : TxsR w g a ls) (hs : ∀ l ∈ ls, l.length ≤ 255) (ag ea : Int) (a0 : 0 ≤ ag) (a1 : ag < 9223372036854775808) (e0 : 0 ≤ ea) (e1 : ea ≤ 255) :
    Calls Tryz.prog 33 #[.agg #[.int .i64 1, .int .i64 v, .slice l2.a l2.xs.length l2.c, .slice l3.a l3.xs.length l3.c, .string ⟨⟨ho⟩⟩, .slice a ls.length c, .slice l6.a l6.xs.length l6.c, .int .i64 ag, .int .i64 ea, .slice l9.a l9.xs.length l9.c, x10, x11, x12]] w (BodP w (heL v l2.xs l3.xs ho ls l6.xs ag ea l9.xs)) := by
  have G0 := Gr.start w #[.int .i64 1, .int .i64 v, .slice l2.a l2.xs.length l2.c, .slice l3.a l3.xs.length l3.c, .string ⟨⟨ho⟩⟩, .slice a ls.length c, .slice l6.a l6.xs.length l6.c, .int .i64 ag, .int .i64 ea, .slice l9.a l9.xs.length l9.c, x10, x11, x12].toList
  have m2 := H2.m
  have m3 := H3.m
  have m6 := H6.m
  have m9 := H9.m
  have LL : Hid ((lsL ls).length ≤ 8388617) := lsL_len ls H.n H.z
  obtain ⟨OUT, hO'⟩ : ∃ l : List Int, l = heL v l2.xs l3.xs ho ls l6.xs ag ea l9.xs := ⟨_, rfl⟩
  rw [← hO']
  have hO : Hid (OUT = ((((([v] ++ l2.xs) ++ l3.xs) ++ shL ho) ++ lsL ls) ++ loL l6.xs) ++ bdL l6.xs ag ea l9.xs) := by show _ = _; rw [hO']; unfold heL fpL; rw [big1 v v0 v1]; simp only [List.append_assoc]
  clear hO'
  have k0 := G0.c.cell 0
  have z1 : (w.alloc (.cells #[.int .i64 1, .int .i64 v, .slice l2.a l2.xs.length l2.c, .slice l3.a l3.xs.length l3.c, .string ⟨⟨ho⟩⟩, .slice a ls.length c, .slice l6.a l6.xs.length l6.c, .int .i64 ag, .int .i64 ea, .slice l9.a l9.xs.length l9.c, x10, x11, x12] 31)).heap.size = w.heap.size + 1 := by simp
  have v256 : v < 256 := by omega
  go_enter Tryz.func33, Tryz.ntmps33
  go_upto_region 4 with fail
  clear k0 z1
  obtain ⟨vR, hvR⟩ : ∃ x, x = Value.slice (some ⟨w.heap.size + 1, 0, none⟩) 0 0 := ⟨_, rfl⟩
  rw [← hvR] at G0 ⊢
  clear hvR
  generalize (w.alloc (.cells #[.int .i64 1, .int .i64 v, .slice l2.a l2.xs.length l2.c, .slice l3.a l3.xs.length l3.c, .string ⟨⟨ho⟩⟩, .slice a ls.length c, .slice l6.a l6.xs.length l6.c, .int .i64 ag, .int .i64 ea, .slice l9.a l9.xs.length l9.c, x10, x11, x12] 31)).alloc (.cells #[] 5) = W2 at *
  have c1 := G0.c.cell 1
  obtain ⟨v1', W3, hap, G1⟩ := G0.one v (by simp)
  clear G0
  go_upto_region 5 with (at_builtin; refine Lib.wpList_append_run _ rfl _ _ 22 22 rfl _ _ rfl rfl _ _ hap ?_)
  clear hap c1
  rw [List.nil_append] at G1
  have nd : Below W3.heap.size W3 W3.drew := (Below.refl _ _).drew
  have G2 := G1.up nd
  have A19 := hide (G2.app l2.g l2.a l2.c l2.xs (G2.list H2).r H2.z (by simp; omega))
  have A22 : Hid (∀ v' W, Gr w #[.int .i64 1, .int .i64 v, .slice l2.a l2.xs.length l2.c, .slice l3.a l3.xs.length l3.c, .string ⟨⟨ho⟩⟩, .slice a ls.length c, .slice l6.a l6.xs.length l6.c, .int .i64 ag, .int .i64 ea, .slice l9.a l9.xs.length l9.c, x10, x11, x12].toList W v' ([v] ++ l2.xs) → ∃ v'' w', (Builtin.append_ #[22, 22] 22 #[v', .slice l3.a l3.xs.length l3.c]).run Tryz.prog W = .ok v'' w' ∧ (Gr w #[.int .i64 1, .int .i64 v, .slice l2.a l2.xs.length l2.c, .slice l3.a l3.xs.length l3.c, .string ⟨⟨ho⟩⟩, .slice a ls.length c, .slice l6.a l6.xs.length l6.c, .int .i64 ag, .int .i64 ea, .slice l9.a l9.xs.length l9.c, x10, x11, x12].toList w' v'' (([v] ++ l2.xs) ++ l3.xs) ∧ Below (w.heap.size + 1) W w')) := fun v' W h => h.app l3.g l3.a l3.c l3.xs (h.list H3).r H3.z (by simp; omega)
  have CY : Hid (∀ W v' zs, Gr w #[.int .i64 1, .int .i64 v, .slice l2.a l2.xs.length l2.c, .slice l3.a l3.xs.length l3.c, .string ⟨⟨ho⟩⟩, .slice a ls.length c, .slice l6.a l6.xs.length l6.c, .int .i64 ag, .int .i64 ea, .slice l9.a l9.xs.length l9.c, x10, x11, x12].toList W v' zs → (W.cell? ⟨w.heap.size, 2, none⟩ = some (.slice l2.a l2.xs.length l2.c) ∧ W.cell? ⟨w.heap.size, 3, none⟩ = some (.slice l3.a l3.xs.length l3.c))) := fun W v' zs h => ⟨h.c.cell 2, h.c.cell 3⟩
  go_region_held3 (fun W => W.cell? ⟨w.heap.size, 2, none⟩ = some (.slice l2.a l2.xs.length l2.c) ∧ W.cell? ⟨w.heap.size, 3, none⟩ = some (.slice l3.a l3.xs.length l3.c))
    (first | exact (unhide CY) _ _ _ G2 | exact (unhide CY) _ _ _ G3 | exact (unhide CY) _ _ _ G4)
    (first
      | (refine step_append_exM rfl (.tmp 16) (.tmp 18) 22 22 rfl v1' (.slice l2.a l2.xs.length l2.c) rfl rfl _ A19.out ?_; rintro v19 w19 ⟨G3, -⟩; (have B22 := hide ((unhide A22) v19 w19 G3)))
      | (refine step_append_exM rfl (.tmp 19) (.tmp 21) 22 22 rfl v19 (.slice l3.a l3.xs.length l3.c) rfl rfl _ B22.out ?_; rintro v22 w22 ⟨G4, -⟩)
      | fail)
  clear A19 A22 B22 CY G1 G2 G3 nd
  obtain ⟨Z1, hZ1⟩ : ∃ l, l = ([v] ++ l2.xs) ++ l3.xs := ⟨_, rfl⟩
  have lZ1 : Hid (Z1.length ≤ 2097153) := by show _ ≤ _; rw [hZ1]; simp; omega
  rw [← hZ1] at G4 hO
  clear hZ1
  have c4 := G4.c.cell 4
  obtain ⟨cx, wx, hcv, DX, -, mx⟩ := convT w22 ho
  have SH := hide (l13ShortR_any wx w22.heap.size (some ⟨w22.heap.size, 0, none⟩) cx (txL ho) DX (fun h => nomatch h) (by rw [txL_len]; omega))
  rw [txL_len, ← shL_is ho hh] at SH
  clear DX
  go_wp2_with (first | (refine wpList_convT _ rfl 9 22 (.tmp 25) rfl (.string ⟨⟨ho⟩⟩) rfl _ _ hcv ?_) | fail)
  refine SH.out.mono ?_
  rintro e w27 ⟨v27, rfl, R27, n27⟩
  have G5 := (G4.up mx).up n27
  obtain ⟨v28, w28, hap, G6⟩ := G5.row R27 (by rw [shL_len]; have := lZ1.out; omega)
  clear G4 G5 R27 n27 mx hcv SH c4
  obtain ⟨Z2, hZ2⟩ : ∃ l, l = Z1 ++ shL ho := ⟨_, rfl⟩
  have lZ2 : Hid (Z2.length ≤ 2098000) := by show _ ≤ _; rw [hZ2, List.length_append, shL_len]; have := lZ1.out; omega
  rw [← hZ2] at G6 hO
  clear hZ2
  have c5 := G6.c.cell 5
  have CL := hide (l13List_any w28 g a c ls (H.up G6.n) hs)
  go_wp2_with (at_builtin; refine Lib.wpList_append_run _ rfl _ _ 22 22 rfl _ _ rfl rfl _ _ hap ?_)
  clear hap
  refine CL.out.mono ?_
  rintro e w32 ⟨⟨v32, rfl, R32⟩, n32⟩
  obtain ⟨v33, w33, hap, G7⟩ := (G6.up n32).row R32 (by have := lZ2.out; have := LL.out; omega)
  clear G6 R32 n32 CL c5
  obtain ⟨Z3, hZ3⟩ : ∃ l, l = Z2 ++ lsL ls := ⟨_, rfl⟩
  have lZ3 : Hid (Z3.length ≤ 11000000) := by show _ ≤ _; rw [hZ3, List.length_append]; have := lZ2.out; have := LL.out; omega
  rw [← hZ3] at G7 hO
  clear hZ3
  have c6 := G7.c.cell 6
  have CG := hide (l13Long_any w33 l6 (G7.list H6))
  go_wp2_with (at_builtin; refine Lib.wpList_append_run _ rfl _ _ 22 22 rfl _ _ rfl rfl _ _ hap ?_)
  clear hap
  refine CG.out.mono ?_
  rintro e w37 ⟨⟨v37, rfl, R37⟩, n37⟩
  obtain ⟨v38, w38, hap, G8⟩ := (G7.up n37).row R37 (by rw [loL_len]; have := lZ3.out; omega)
  clear G7 R37 n37 CG c6
  obtain ⟨Z4, hZ4⟩ : ∃ l, l = Z3 ++ loL l6.xs := ⟨_, rfl⟩
  have lZ4 : Hid (Z4.length ≤ 13000000) := by show _ ≤ _; rw [hZ4, List.length_append, loL_len]; have := lZ3.out; omega
  rw [← hZ4] at G8 hO
  clear hZ4
  have c6 := G8.c.cell 6
  by_cases h6 : l6.xs.length = 0
  · have t6 : ¬ (0 < l6.xs.length) := by omega
    have FIN : Hid (BodP w OUT (.returned v38) w38) := by show BodP _ _ _ _; rw [hO.out]; unfold bdL; rw [if_pos h6, List.append_nil]; exact G8.body
    clear G8 h6
    go_wp2_with (at_builtin; refine Lib.wpList_append_run _ rfl _ _ 22 22 rfl _ _ rfl rfl _ _ hap ?_)
    clear hap
    go_ret
    exact FIN.out
  · have t6 : 0 < l6.xs.length := by omega
    have c7 := G8.c.cell 7
    have L1 := hide (l1BigB_any w38 ag 4 a0 a1 (by decide))
    have hO2 : Hid (OUT = ((Z4 ++ bigL ag 4) ++ [ea]) ++ l9.xs) := by show _ = _; rw [hO.out]; unfold bdL; rw [if_neg h6, big1 ea e0 e1]; simp only [List.append_assoc]
    clear hO h6
    go_wp2_with (at_builtin; refine Lib.wpList_append_run _ rfl _ _ 22 22 rfl _ _ rfl rfl _ _ hap ?_)
    clear hap
    refine L1.out.mono ?_
    rintro e w46 ⟨rfl, R46, n46⟩
    obtain ⟨v47, w47, hap, G9⟩ := (G8.up n46).row R46 (by rw [bigL_len]; have := lZ4.out; omega)
    clear G8 R46 n46 L1 c7 c6
    obtain ⟨Z5, hZ5⟩ : ∃ l, l = Z4 ++ bigL ag 4 := ⟨_, rfl⟩
    have lZ5 : Hid (Z5.length ≤ 13000004) := by show _ ≤ _; rw [hZ5, List.length_append, bigL_len]; have := lZ4.out; omega
    rw [← hZ5] at G9 hO2
    clear hZ5
    go_upto_region 11 with (at_builtin; refine Lib.wpList_append_run _ rfl _ _ 22 22 rfl _ _ rfl rfl _ _ hap ?_)
    clear hap
    have w8 : IntKind.u8.wrap ea = ea := by simp [IntKind.wrap, IntKind.signed, IntKind.bits]; omega
    have nd : Below w47.heap.size w47 w47.drew := (Below.refl _ _).drew
    have GA := G9.up nd
    have GL := GA.up (show Below w47.drew.heap.size w47.drew (w47.drew.alloc (.cells #[.int .u8 ea] 5)) from (Below.refl _ _).alloc (Nat.le_refl _) _)
    have A53 : Hid (∃ v' w', (Builtin.append_ #[22, 22] 22 #[v47, .slice (some ⟨w47.heap.size, 0, none⟩) 1 1]).run Tryz.prog (w47.drew.alloc (.cells #[.int .u8 ea] 5)) = .ok v' w' ∧ Gr w #[.int .i64 1, .int .i64 v, .slice l2.a l2.xs.length l2.c, .slice l3.a l3.xs.length l3.c, .string ⟨⟨ho⟩⟩, .slice a ls.length c, .slice l6.a l6.xs.length l6.c, .int .i64 ag, .int .i64 ea, .slice l9.a l9.xs.length l9.c, x10, x11, x12].toList w' v' (Z5 ++ [ea])) := GA.one ea (by have := lZ5.out; omega)
    have A56 : Hid (∀ v' W, Gr w #[.int .i64 1, .int .i64 v, .slice l2.a l2.xs.length l2.c, .slice l3.a l3.xs.length l3.c, .string ⟨⟨ho⟩⟩, .slice a ls.length c, .slice l6.a l6.xs.length l6.c, .int .i64 ag, .int .i64 ea, .slice l9.a l9.xs.length l9.c, x10, x11, x12].toList W v' (Z5 ++ [ea]) → ∃ v'' w', (Builtin.append_ #[22, 22] 22 #[v', .slice l9.a l9.xs.length l9.c]).run Tryz.prog W = .ok v'' w' ∧ (Gr w #[.int .i64 1, .int .i64 v, .slice l2.a l2.xs.length l2.c, .slice l3.a l3.xs.length l3.c, .string ⟨⟨ho⟩⟩, .slice a ls.length c, .slice l6.a l6.xs.length l6.c, .int .i64 ag, .int .i64 ea, .slice l9.a l9.xs.length l9.c, x10, x11, x12].toList w' v'' ((Z5 ++ [ea]) ++ l9.xs) ∧ Below (w.heap.size + 1) W w')) := fun v' W h => h.app l9.g l9.a l9.c l9.xs (h.list H9).r H9.z (by have := lZ5.out; simp; omega)
    have CY : Hid (∀ W v' zs, Gr w #[.int .i64 1, .int .i64 v, .slice l2.a l2.xs.length l2.c, .slice l3.a l3.xs.length l3.c, .string ⟨⟨ho⟩⟩, .slice a ls.length c, .slice l6.a l6.xs.length l6.c, .int .i64 ag, .int .i64 ea, .slice l9.a l9.xs.length l9.c, x10, x11, x12].toList W v' zs → (W.cell? ⟨w.heap.size, 8, none⟩ = some (.int .i64 ea) ∧ W.cell? ⟨w.heap.size, 9, none⟩ = some (.slice l9.a l9.xs.length l9.c))) := fun W v' zs h => ⟨h.c.cell 8, h.c.cell 9⟩
    go_region_held3 (fun W => W.cell? ⟨w.heap.size, 8, none⟩ = some (.int .i64 ea) ∧ W.cell? ⟨w.heap.size, 9, none⟩ = some (.slice l9.a l9.xs.length l9.c))
      (first | exact (unhide CY) _ _ _ GA | exact (unhide CY) _ _ _ GL | exact (unhide CY) _ _ _ GB | exact (unhide CY) _ _ _ GC)
      (first
        | (refine step_append_exM rfl (.tmp 48) (.tmp 52) 22 22 rfl v47 (.slice (some ⟨w47.heap.size, 0, none⟩) 1 1) rfl rfl _ A53.out ?_; rintro v53 w53 GB; (have B56 := hide ((unhide A56) v53 w53 GB)))
        | (refine step_append_exM rfl (.tmp 53) (.tmp 55) 22 22 rfl v53 (.slice l9.a l9.xs.length l9.c) rfl rfl _ B56.out ?_; rintro v56 w56 ⟨GC, -⟩)
        | fail)
    have FIN : Hid (BodP w OUT (.returned v56) w56) := by show BodP _ _ _ _; rw [hO2.out]; exact GC.body
    clear A53 A56 B56 CY G9 GA GL GB GC nd
    go_wp2
    go_ret
    exact FIN.out
end Go.Proofs.YtdbgdiahddpgkaaGreat
