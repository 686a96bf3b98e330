import Derived.Test.YtmfajpplagbfcaaGreatDoorHC25
import Derived.Test.YtmfajpplagbfcaaGreatDoorHC2
import Derived.Test.YtmfajpplagbfcaaGreatDoorHC10
namespace Go.Proofs.YtmfajpplagbfcaaGreatDoor
set_option maxRecDepth 100000
open Go Go.RowKit
def SC2 (w : World) (v : Value) (B : Nat) (ys : List Int) (x : Value) : Prop := ∃ (a : Option Addr) (c g : Nat), v = .agg #[.slice a ys.length c, x] ∧ Own w g a .u8 ys ∧ (a = none → c = 0) ∧ ys.length ≤ c ∧ B ≤ g
theorem SC2.up {w w' : World} {v : Value} {B : Nat} {ys : List Int} {x : Value} (h : SC2 w v B ys x) (n : Below w.heap.size w w') : SC2 w' v B ys x := by
  obtain ⟨a, c, g, e, o, q⟩ := h
  exact ⟨a, c, g, e, o.up n, q⟩
def SCh (B : Nat) (ys : List Int) (x : Value) : Fact := ⟨fun v w => SC2 w v B ys x, fun n h => h.up n⟩
theorem buSc (w : World) (a a' : Option Addr) (n n' c c' : Nat) : (Instr.build 45 #[(0, .slice a n c), (1, .slice a' n' c')]).run Tryz.prog w = .ok (.agg #[.slice a n c, .slice a' n' c']) w := by kernel_rfl
theorem step_b2 {ops : Array Oper} {Q : Exit → Act → World → Prop} {md : Region.Mode} {F : Nat → Fact} {a0 : Act} {w0 : World} {i : Nat} {o : Oper} {B : Nat} {ys : List Int} {a' : Option Addr} {n' c' : Nat} (hi : ops[i]? = some o) (p q j k : Nat) (hop : o.op = .build 45 #[(0, .tmp p), (1, .tmp q)])
    (hj : waits md ops i j p = true) (hk : waits md ops i k q = true) (hFj : F j = RNh B ys) (hFk : F k = Fact.eq (.slice a' n' c')) (hFi : F i = SCh B ys (.slice a' n' c')) : StepOk Tryz.prog md ops Q F a0 w0 i := by
  refine step_pure hi fun a w _ _ hf => ?_
  have h1 := hf j p hj
  have h2 := hf k q hk
  rw [hFj] at h1
  rw [hFk] at h2
  obtain ⟨a1, c1, g1, e7, o1, p1, q1, r1⟩ := h1
  have x1 : a.eval (.tmp p) = .slice a1 ys.length c1 := e7
  have x2 : a.eval (.tmp q) = .slice a' n' c' := h2
  refine ⟨.agg #[.slice a1 ys.length c1, .slice a' n' c'], ?_, by rw [hFi]; exact ⟨a1, c1, g1, rfl, o1, p1, q1, r1⟩⟩
  have gg : (#[(0, Operand.tmp p), (1, Operand.tmp q)].map fun (n, x) => (n, a.eval x)) = #[(0, Value.slice a1 ys.length c1), (1, .slice a' n' c')] := by simp [x1, x2]
  simp only [execOp, hop, gg]
  rw [Sem.run_bind, buSc]
  rfl
theorem one2 (a a' : Option Addr) (n n' c c' : Nat) : ([.slice a n c, .slice a' n' c'] : List Value).toArray.all (·.oneCell') = true := all_oneCell_toArray fun v hv => by
  simp only [List.mem_cons, List.not_mem_nil, or_false] at hv
  rcases hv with rfl | rfl
  all_goals rfl
theorem there2 {w : World} {q : Nat} {x y : Value} {t : TypeId} (h : w.heap[q]? = some (.cells #[x, y] t (0, 0))) : w.there q 0 2 := fun j hj => by
  rw [Nat.zero_add, cell_of_row _ _ _ _ _ _ h, frozen_of_row _ _ _ _ _ h]
  refine ⟨?_, rfl⟩
  obtain rfl | rfl : j = 0 ∨ j = 1 := by omega
  all_goals rfl
theorem range_up {W W' : World} {q : Nat} {cs : List Value} (h : W.rangeAt q 0 cs) (l : q < W.heap.size) (n : Below W.heap.size W W') : W'.rangeAt q 0 cs := fun j v hj => (World.cell?_of_block (a := ⟨q, 0 + j, none⟩) (n.block q l)).trans (h j v hj)
theorem bx_lt (w : World) (x y : Value) : w.heap.size < (bx w x y).heap.size := by simp [bx]
set_option maxHeartbeats 4000000 in
theorem sDerive_any (w : World) (hH : HasH w) {a a' : Option Addr} {c n' c' : Nat} {ks : List Int} (s : ByteArray) (hs : s.size ≤ 1048576) (h1 : Lq w a c ks) :
    Calls Tryz.prog 49 #[.agg #[.slice a ks.length c, .slice a' n' c'], .string s] w fun e w' => (∃ v, e = .returned v ∧ SC2 w' v w.heap.size (labA ks s hE 32) (.slice a' n' c')) ∧ Below w.heap.size w w' := by
  have n0 := bx_up w (.slice a ks.length c) (.slice a' n' c')
  have z0 := bx_lt w (.slice a ks.length c) (.slice a' n' c')
  have zz : (bx w (.slice a ks.length c) (.slice a' n' c')).heap.size = w.heap.size + 1 := by simp [bx]
  have R0 := bx_range w (.slice a ks.length c) (.slice a' n' c')
  obtain ⟨d3, hd3, hrow3⟩ := rowSc
  have HH := hH.up n0
  have H1 := h1.up n0
  clear hH h1
  obtain ⟨ls, hls⟩ : ∃ l, l = labA ks s hE 32 := ⟨_, rfl⟩
  have HL := hide hls
  rw [← hls]
  clear hls
  unfold bx at n0 z0 zz R0 HH H1
  go_enter Tryz.func49, Tryz.ntmps49
  go_upto_region 1 with fail
  generalize w.alloc (.cells #[.slice a ks.length c, .slice a' n' c'] 45) = wa at *
  have n1 : Below wa.heap.size wa (wa.alloc (.cells #[.slice none 0 0, .slice none 0 0] 45)) := (Below.refl _ _).alloc (Nat.le_refl _) _
  have TH : (wa.alloc (.cells #[.slice none 0 0, .slice none 0 0] 45)).there (w.heap.size + 1) 0 2 := there2 (x := .slice none 0 0) (y := .slice none 0 0) (t := 45) (by rw [← zz]; show (wa.heap.push _)[wa.heap.size]? = _; simp)
  have R1 := range_up R0 z0 n1
  have HH1 := HH.up n1
  have L1 := H1.up n1
  have N1 := nxt n0 n1
  have zb : w.heap.size + 1 < (wa.alloc (.cells #[.slice none 0 0, .slice none 0 0] 45)).heap.size := by simp; omega
  generalize wa.alloc (.cells #[.slice none 0 0, .slice none 0 0] 45) = wb at *
  clear n0 n1 R0 z0 zz HH H1
  refine region_putF 8 7 4 12 _ (fun i => [Fact.eq (.pointer (some ⟨w.heap.size, 0, none⟩)), Fact.eq (.slice a ks.length c), Fact.eq (.string s), RNh wb.heap.size hE, RNh wb.heap.size ls, Fact.eq (.pointer (some ⟨w.heap.size, 1, none⟩)), Fact.eq (.slice a' n' c'), SCh wb.heap.size ls (.slice a' n' c')].getD i Fact.no) (w.heap.size + 1) 0 45 (by kernel_rfl) (by kernel_rfl) rfl rfl rfl (by kernel_rfl) rfl (by kernel_rfl) ?_ ?_
  · intro i hi
    obtain rfl | rfl | rfl | rfl | rfl | rfl | rfl | rfl : i = 0 ∨ i = 1 ∨ i = 2 ∨ i = 3 ∨ i = 4 ∨ i = 5 ∨ i = 6 ∨ i = 7 := by omega
    · refine step_pure rfl fun A ww hb hw hf => ?_
      have e1 : A.tmps[2]?.getD undef = .pointer (some ⟨w.heap.size, 0, none⟩) := gdv (hb.2.2 2 (by kernel_rfl))
      exact ⟨.pointer (some ⟨w.heap.size, 0, none⟩), by simp [go_sem, e1], rfl⟩
    · refine step_pure rfl fun A ww hb hw hf => ?_
      have e3 : A.tmps[5]?.getD undef = .pointer (some ⟨w.heap.size, 0, none⟩) := gdv (hf 0 5 (by kernel_rfl))
      have hc : ww.cell? ⟨w.heap.size, 0, none⟩ = some (.slice a ks.length c) := range_up R1 (by omega) hw 0 _ rfl
      exact ⟨.slice a ks.length c, by simp [go_sem, e3, hc], rfl⟩
    · refine step_pure rfl fun A ww hb hw hf => ?_
      have e1 : A.tmps[1]?.getD undef = .string s := gdv (hb.2.2 1 (by kernel_rfl))
      exact ⟨.string s, by simp [go_sem, e1], rfl⟩
    · refine step_callv rfl 23 _ _ rfl (by kernel_rfl) fun A ww hb hw hf => ?_
      show Calls Tryz.prog 23 #[.slice none 0 0] ww _
      exact (implHash_32 ww 0 none 0 [] (Rd.nil _ _ _ _) byt_nil (Nat.le_refl _) (by simp) (HH1.1.up hw) (HH1.2.up hw)).mono (by rintro r w' ⟨⟨a1, c1, g1, rfl, o1, p1, q1, r1⟩, n⟩; exact ⟨_, rfl, n, a1, c1, g1, rfl, o1, p1, q1, Nat.le_trans hw.size r1⟩)
    · refine step_callv rfl 81 _ _ rfl (by kernel_rfl) fun A ww hb hw hf => ?_
      have e6 : A.tmps.getD 6 undef = .slice a ks.length c := hf 1 6 (by kernel_rfl)
      have e7 : A.tmps.getD 7 undef = .string s := hf 2 7 (by kernel_rfl)
      obtain ⟨a1, c1, g1, e8, o1, p1, q1, r1⟩ := hf 3 8 (by kernel_rfl)
      obtain ⟨⟨g, r⟩, b, p, q, l⟩ := L1.up hw
      show Calls Tryz.prog 81 #[A.tmps.getD 6 undef, A.tmps.getD 7 undef, A.tmps.getD 8 undef] ww _
      rw [e6, e7, e8]
      have D := implDerive_any ww g a c ks r b q l s hs g1 a1 c1 hE o1.rd hE_byt p1 (by rw [hE_len]; decide) (HH1.1.up hw) (HH1.2.up hw)
      rw [← HL.out] at D
      exact D.mono (by rintro r w' ⟨⟨a1, c1, g1, rfl, o1, p1, q1, r1⟩, n⟩; exact ⟨_, rfl, n, a1, c1, g1, rfl, o1, p1, q1, Nat.le_trans hw.size r1⟩)
    · refine step_pure rfl fun A ww hb hw hf => ?_
      have e1 : A.tmps[2]?.getD undef = .pointer (some ⟨w.heap.size, 0, none⟩) := gdv (hb.2.2 2 (by kernel_rfl))
      exact ⟨.pointer (some ⟨w.heap.size, 1, none⟩), by simp [go_sem, e1], rfl⟩
    · refine step_pure rfl fun A ww hb hw hf => ?_
      have e3 : A.tmps[10]?.getD undef = .pointer (some ⟨w.heap.size, 1, none⟩) := gdv (hf 5 10 (by kernel_rfl))
      have hc : ww.cell? ⟨w.heap.size, 1, none⟩ = some (.slice a' n' c') := range_up R1 (by omega) hw 1 _ rfl
      exact ⟨.slice a' n' c', by simp [go_sem, e3, hc], rfl⟩
    · exact step_b2 rfl 9 11 4 6 rfl (by kernel_rfl) (by kernel_rfl) rfl rfl rfl
  intro vs6 W v hw hv3
  have hv3 : SC2 W v wb.heap.size ls (.slice a' n' c') := hv3
  obtain ⟨a1, c1, g1, rfl, o1, p1, q1, r1⟩ := hv3
  have th := there_upn (by omega) TH hw
  refine ⟨[.slice a1 ls.length c1, .slice a' n' c'], rfl, th, iSc, one2 _ _ _ _ _ _, ?_⟩
  have RR := World.rangeAt_setCells_same W (w.heap.size + 1) 0 [.slice a1 ls.length c1, .slice a' n' c'] th
  have OQ := only_setCells W (w.heap.size + 1) [.slice a1 ls.length c1, .slice a' n' c'] 0
  have N2 : Below w.heap.size w (W.setCells (w.heap.size + 1) 0 [.slice a1 ls.length c1, .slice a' n' c']) := (nxt N1 hw).trans (OQ.below (by omega))
  have o1' := o1.only OQ (fun _ => by omega)
  generalize W.setCells (w.heap.size + 1) 0 [.slice a1 ls.length c1, .slice a' n' c'] = W2 at *
  simp only [puts, Act.put, List.setIfInBounds_toArray, List.set_cons_succ, List.set_cons_zero]
  clear o1 OQ th TH R1 N1 HH1 L1
  go_wp2
  exact bodyPost_ret (v := .agg #[.slice a1 ls.length c1, .slice a' n' c']) (results_cell_m Tryz.results49 _ _ (w.heap.size + 1) _ d3 rfl RR hd3 hrow3 iSc) rfl ⟨⟨_, rfl, a1, c1, g1, rfl, o1', p1, q1, by omega⟩, N2⟩
set_option maxHeartbeats 4000000 in
theorem sFinish_any (w : World) (hH : HasH w) {a a' : Option Addr} {c c' : Nat} {ks xs : List Int} (h1 : Lq w a c ks) (h2 : Lq w a' c' xs) :
    Calls Tryz.prog 50 #[.agg #[.slice a ks.length c, .slice a' xs.length c']] w fun e w' => NewRow w.heap.size w' e .u8 (macL (labA ks lbF [] 32) xs) ∧ Below w.heap.size w w' := by
  have n0 := bx_up w (.slice a ks.length c) (.slice a' xs.length c')
  have z0 := bx_lt w (.slice a ks.length c) (.slice a' xs.length c')
  have R1 := bx_range w (.slice a ks.length c) (.slice a' xs.length c')
  obtain ⟨d3, hd3, hrow3⟩ := rowSc
  have HH1 := hH.up n0
  have L1 := h1.up n0
  have L2 := h2.up n0
  clear hH h1 h2
  have LL := labA_len ks lbF [] 32
  have LB := labA_byt ks lbF [] 32
  obtain ⟨ls, hls⟩ : ∃ l, l = labA ks lbF [] 32 := ⟨_, rfl⟩
  rw [← hls] at LL LB
  rw [← hls]
  have HL := hide hls
  clear hls
  unfold bx at n0 z0 R1 HH1 L1 L2
  go_enter Tryz.func50, Tryz.ntmps50
  go_upto_region 1 with fail
  generalize w.alloc (.cells #[.slice a ks.length c, .slice a' xs.length c'] 45) = wb at *
  refine region_end 6 (fun i => [Fact.eq (.agg #[.slice a ks.length c, .slice a' xs.length c']), RNh wb.heap.size ls, Fact.eq (.pointer (some ⟨w.heap.size, 1, none⟩)), Fact.eq (.slice a' xs.length c'), RNh wb.heap.size (macL ls xs), RNh wb.heap.size (macL ls xs)].getD i Fact.no) (by kernel_rfl) (by kernel_rfl) rfl ?_ ?_
  · intro i hi
    obtain rfl | rfl | rfl | rfl | rfl | rfl : i = 0 ∨ i = 1 ∨ i = 2 ∨ i = 3 ∨ i = 4 ∨ i = 5 := by omega
    · refine step_load rfl 45 (.tmp 1) rfl d3 2 hd3 hrow3 iSc fun A ww hb hw hf => ⟨_, 0, [.slice a ks.length c, .slice a' xs.length c'], hb.2.2 1 (by kernel_rfl), range_up R1 z0 hw, rfl, rfl⟩
    · refine step_callv rfl 83 _ _ rfl (by kernel_rfl) fun A ww hb hw hf => ?_
      have e3 : A.tmps.getD 3 undef = .agg #[.slice a ks.length c, .slice a' xs.length c'] := hf 0 3 (by kernel_rfl)
      show Calls Tryz.prog 83 #[A.tmps.getD 3 undef, .string lbF, .int .i64 32] ww _
      rw [e3]
      have D := sExpand_any ww (HH1.up hw) (.slice a' xs.length c') lbF (by decide) 32 (L1.up hw)
      rw [← HL.out] at D
      exact D.mono (by rintro r w' ⟨⟨a1, c1, g1, rfl, o1, p1, q1, r1⟩, n⟩; exact ⟨_, rfl, n, a1, c1, g1, rfl, o1, p1, q1, Nat.le_trans hw.size r1⟩)
    · refine step_pure rfl fun A ww hb hw hf => ?_
      have e1 : A.tmps[1]?.getD undef = .pointer (some ⟨w.heap.size, 0, none⟩) := gdv (hb.2.2 1 (by kernel_rfl))
      exact ⟨.pointer (some ⟨w.heap.size, 1, none⟩), by simp [go_sem, e1], rfl⟩
    · refine step_pure rfl fun A ww hb hw hf => ?_
      have e3 : A.tmps[5]?.getD undef = .pointer (some ⟨w.heap.size, 1, none⟩) := gdv (hf 2 5 (by kernel_rfl))
      have hc : ww.cell? ⟨w.heap.size, 1, none⟩ = some (.slice a' xs.length c') := range_up R1 z0 hw 1 _ rfl
      exact ⟨.slice a' xs.length c', by simp [go_sem, e3, hc], rfl⟩
    · refine step_callv rfl 82 _ _ rfl (by kernel_rfl) fun A ww hb hw hf => ?_
      obtain ⟨a1, c1, g1, e4, o1, p1, q1, r1⟩ := hf 1 4 (by kernel_rfl)
      have e6 : A.tmps.getD 6 undef = .slice a' xs.length c' := hf 3 6 (by kernel_rfl)
      obtain ⟨⟨g, r⟩, b, p, q, l⟩ := L2.up hw
      show Calls Tryz.prog 82 #[A.tmps.getD 4 undef, A.tmps.getD 6 undef] ww _
      rw [e4, e6]
      exact (implMac_any ww g1 a1 c1 ls o1.rd LB q1 (by omega) g a' c' xs r b q (by omega) (HH1.1.up hw) (HH1.2.up hw)).mono (by rintro r w' ⟨⟨a1, c1, g1, rfl, o1, p1, q1, r1⟩, n⟩; exact ⟨_, rfl, n, a1, c1, g1, rfl, o1, p1, q1, Nat.le_trans hw.size r1⟩)
    · refine step_pure rfl fun A ww hb hw hf => ?_
      obtain ⟨a1, c1, g1, e7, o1, p1, q1, r1⟩ := hf 4 7 (by kernel_rfl)
      exact ⟨.slice a1 (macL ls xs).length c1, by simp [go_sem, gdv e7], ⟨a1, c1, g1, rfl, o1, p1, q1, r1⟩⟩
  intro A W hb hw hF
  have e2 := hF 5 2 (by kernel_rfl)
  obtain ⟨vs, hvs⟩ : ∃ vs : Nat → Value, ∀ d, A.tmps.getD d undef = vs d := ⟨_, fun _ => rfl⟩
  rw [hvs] at e2
  rw [puts_of (md := .any) (k := 6) (by kernel_rfl) rfl hb vs hvs]
  have N9 := nxt n0 hw
  clear hb hF hvs hw R1 HH1 L1 L2 HL LB LL
  obtain ⟨a1, c1, g1, e3, o1, p1, q1, r1⟩ := e2
  simp only [puts, e3, Act.put, List.setIfInBounds_toArray, List.set_cons_succ, List.set_cons_zero]
  go_wp2
  go_ret
  exact ⟨⟨a1, c1, g1, rfl, o1, p1, q1, by omega⟩, N9⟩
set_option maxHeartbeats 1000000 in
theorem sBind_any (w : World) (hH : HasH w) {a a' : Option Addr} {c c' : Nat} {ks xs : List Int} (h1 : Lq w a c ks) (h2 : Lq w a' c' xs) :
    Calls Tryz.prog 24 #[.agg #[.slice a ks.length c, .slice a' xs.length c']] w fun e w' => NewRow w.heap.size w' e .u8 (macL (labA (labA ks lbB hE 32) lbF [] 32) xs) ∧ Below w.heap.size w w' := by
  have n1 := bx_up w (.slice a ks.length c) (.slice a' xs.length c')
  have C := hide (sDerive_any (a' := a') (n' := xs.length) (c' := c') _ (hH.up n1) lbB (by decide) (h1.up n1))
  have N1 := hide n1
  obtain ⟨d2, hd2, hrow2⟩ := rowSc
  have RG := hide (bx_range w (.slice a ks.length c) (.slice a' xs.length c'))
  have LL := labA_len ks lbB hE 32
  have LB := labA_byt ks lbB hE 32
  clear h1 n1
  unfold bx at C N1 RG
  generalize labA ks lbB hE 32 = ls at *
  have EX := fun W (n : Below w.heap.size w W) a1 c1 (h : Lq W a1 c1 ls) => hide (sFinish_any W (hH.up n) h (h2.up n))
  generalize macL (labA ls lbF [] 32) xs = ys at *
  have LLh := hide LL
  clear LL
  unfold lbB at C
  go_enter Tryz.func24, Tryz.ntmps24
  go_wp2_with fail
  refine C.out.mono ?_
  rintro e w1 ⟨⟨v, rfl, a3, c3, g3, rfl, o3, p3, q3, r3⟩, n⟩
  have z1 := N1.out.size
  have n2 := nxt N1.out n
  have E := EX w1 n2 a3 c3 (Lq.of o3 p3 q3 LB (by have := LLh.out; omega))
  clear EX o3 p3 q3 C RG h2 hH
  go_wp2_with fail
  refine E.out.mono ?_
  rintro e w2 ⟨⟨a4, c4, g4, rfl, o4, p4, q4, r4⟩, n4⟩
  have z2 := n2.size
  go_wp2
  go_ret
  exact ⟨⟨a4, c4, g4, rfl, o4, p4, q4, by omega⟩, nxt n2 n4⟩
end Go.Proofs.YtmfajpplagbfcaaGreatDoor
namespace Go.Proofs.YtmfajpplagbfcaaGreatDoor
set_option maxRecDepth 100000
open Go Go.RowKit
set_option maxHeartbeats 1000000 in
theorem isOther_any (w : World) (a : Option Addr) (n c : Nat) :
    Calls Tryz.prog 45 #[.slice a n c] w fun e w' => e = .returned (.bool (decide (n ≠ 32))) ∧ w' = w := by
  by_cases h : n = 32
  · subst h
    go_enter Tryz.func45, Tryz.ntmps45
    go_wp2
    go_ret
    exact ⟨rfl, rfl⟩
  · have t : ((n : Int) != 32) = true := by simp; omega
    have t2 : decide (n ≠ 32) = true := decide_eq_true h
    rw [t2]
    go_enter Tryz.func45, Tryz.ntmps45
    go_wp2
    go_ret
    exact ⟨rfl, rfl⟩
abbrev Sv := Option Addr × Nat × Nat
def sv0 : Sv := (none, 0, 0)
def Sv.v (x : Sv) : Value := .slice x.1 x.2.1 x.2.2
def RwV (w : World) (b : Nat) (vs : List Sv) : Prop := ∀ i, i < vs.length → w.cell? ⟨b, i, none⟩ = some (.slice (vs.getD i sv0).1 (vs.getD i sv0).2.1 (vs.getD i sv0).2.2)
def oth (vs : List Sv) : Bool := vs.any fun x => decide (x.2.1 ≠ 32)
theorem oth_take {vs : List Sv} {k : Nat} (hk : k < vs.length) : oth (vs.take (k + 1)) = (oth (vs.take k) || decide ((vs.getD k sv0).2.1 ≠ 32)) := by
  have e : vs.take (k + 1) = vs.take k ++ [vs.getD k sv0] := by
    rw [List.take_succ_eq_append_getElem hk]
    congr 2
    simp [hk]
  rw [e]
  unfold oth
  rw [List.any_append]
  simp
theorem oth_of {vs : List Sv} {k : Nat} (hk : k < vs.length) (h : decide ((vs.getD k sv0).2.1 ≠ 32) = true) : oth vs = true := by
  unfold oth
  rw [List.any_eq_true]
  exact ⟨vs.getD k sv0, by simp [hk], h⟩
set_option maxHeartbeats 2000000 in
theorem idxO_any (w : World) (b : Nat) (vs : List Sv) (hr : RwV w b vs) (hn : vs.length ≤ 1048576) :
    Calls Tryz.prog 73 #[.slice (some ⟨b, 0, none⟩) vs.length vs.length, .func (.func 45) #[] #[]] w fun e w' => (∃ r : Int, e = .returned (.int .i64 r) ∧ decide (0 ≤ r) = oth vs) ∧ w' = w := by
  go_enter Tryz.func73, Tryz.ntmps73
  go_wp2
  go_loopw [8] (fun i wr => wr = w ∧ ∃ k : Nat, k ≤ vs.length ∧ i = .int .i64 k ∧ Hid (oth (vs.take k) = false)) (fun i _ => vs.length - (intOf i).toNat)
  case atStart => exact ⟨rfl, 0, by omega, rfl, by show _ = _; rw [List.take_zero]; rfl⟩
  case round =>
    obtain ⟨rfl, k, hk, rfl, hA⟩ := hrel
    by_cases hlt : k < vs.length
    · have t2 : (k : Int) < (vs.length : Int) := by omega
      have c1 := hr k hlt
      have CC := hide (isOther_any wr (vs.getD k sv0).1 (vs.getD k sv0).2.1 (vs.getD k sv0).2.2)
      have AT := hide (oth_take hlt)
      have AO := hide (fun h => oth_of hlt h)
      rw [hA.out] at AT
      clear hA
      generalize (vs.getD k sv0).1 = x1 at *
      generalize (vs.getD k sv0).2.1 = x2 at *
      generalize (vs.getD k sv0).2.2 = x3 at *
      generalize decide (x2 ≠ 32) = z at *
      cases z with
      | false =>
        clear AO
        go_wp2_with fail
        refine CC.out.mono ?_
        rintro e w1 ⟨rfl, rfl⟩
        go_wp2
        go_roundw
        case rel => exact ⟨by first | rfl | trivial, k + 1, by omega, by go_num, by show _ = _; rw [AT.out]; rfl⟩
        case measure => simp [intOf]; omega
      | true =>
        have AO' := hide (AO.out rfl)
        clear AO AT
        go_wp2_with fail
        refine CC.out.mono ?_
        rintro e w1 ⟨rfl, rfl⟩
        go_wp2
        go_ret
        exact ⟨⟨_, rfl, by rw [AO'.out]; exact decide_eq_true (by omega)⟩, rfl⟩
    · obtain rfl : k = vs.length := by omega
      rw [List.take_length] at hA
      go_wp2
      go_ret
      exact ⟨⟨_, rfl, by rw [hA.out]; rfl⟩, rfl⟩
set_option maxHeartbeats 2000000 in
theorem conO_any (w : World) (b : Nat) (vs : List Sv) (hr : RwV w b vs) (hn : vs.length ≤ 1048576) :
    Calls Tryz.prog 44 #[.slice (some ⟨b, 0, none⟩) vs.length vs.length, .func (.func 45) #[] #[]] w fun e w' => e = .returned (.bool (oth vs)) ∧ w' = w := by
  have IX := hide (idxO_any w b vs hr hn)
  generalize oth vs = z at *
  go_enter Tryz.func44, Tryz.ntmps44
  go_wp2_with fail
  refine IX.out.mono ?_
  rintro e w1 ⟨⟨r, rfl, hrz⟩, rfl⟩
  have HZ := hide hrz
  clear hrz
  go_wp2
  go_ret
  exact ⟨by rw [← HZ.out]; rfl, rfl⟩
set_option maxHeartbeats 1000000 in
theorem takeExtract_any (w : World) (b : Nat) (vs : List Sv) (hr : RwV w b vs) (hn : vs.length ≤ 1048576) (x : Value) (ys : List Int) (C : oth vs = false → Calls Tryz.prog 43 #[x] w fun e w' => NewRow w.heap.size w' e .u8 ys ∧ Below w.heap.size w w') :
    Calls Tryz.prog 22 #[.func (.func 43) #[x] #[], .slice (some ⟨b, 0, none⟩) vs.length vs.length] w fun e w' => NewRow w.heap.size w' e .u8 (if oth vs = true then [] else ys) ∧ Below w.heap.size w w' := by
  have CO := hide (conO_any w b vs hr hn)
  have CH := hide C
  clear hr C
  cases hz : oth vs with
  | true =>
    rw [hz] at CO
    clear CH hz
    rw [if_pos rfl]
    go_enter Tryz.func22, Tryz.ntmps22
    go_wp2_with fail
    refine CO.out.mono ?_
    rintro e w1 ⟨rfl, rfl⟩
    go_wp2
    go_ret
    exact ⟨newRow_z _ _, Below.refl _ _⟩
  | false =>
    rw [hz] at CO
    have CH := hide (CH.out hz)
    clear hz
    rw [if_neg (by decide)]
    go_enter Tryz.func22, Tryz.ntmps22
    go_wp2_with fail
    refine CO.out.mono ?_
    rintro e w1 ⟨rfl, rfl⟩
    go_wp2_with fail
    refine CH.out.mono ?_
    rintro e w2 ⟨⟨a3, c3, g3, rfl, o3, p3, q3, r3⟩, n⟩
    go_wp2
    go_ret
    exact ⟨⟨a3, c3, g3, rfl, o3, p3, q3, r3⟩, n⟩
set_option maxHeartbeats 1000000 in
theorem takeBind_any (w : World) (b : Nat) (vs : List Sv) (hr : RwV w b vs) (hn : vs.length ≤ 1048576) (x : Value) (ys : List Int) (C : oth vs = false → Calls Tryz.prog 24 #[x] w fun e w' => NewRow w.heap.size w' e .u8 ys ∧ Below w.heap.size w w') :
    Calls Tryz.prog 22 #[.func (.func 24) #[x] #[], .slice (some ⟨b, 0, none⟩) vs.length vs.length] w fun e w' => NewRow w.heap.size w' e .u8 (if oth vs = true then [] else ys) ∧ Below w.heap.size w w' := by
  have CO := hide (conO_any w b vs hr hn)
  have CH := hide C
  clear hr C
  cases hz : oth vs with
  | true =>
    rw [hz] at CO
    clear CH hz
    rw [if_pos rfl]
    go_enter Tryz.func22, Tryz.ntmps22
    go_wp2_with fail
    refine CO.out.mono ?_
    rintro e w1 ⟨rfl, rfl⟩
    go_wp2
    go_ret
    exact ⟨newRow_z _ _, Below.refl _ _⟩
  | false =>
    rw [hz] at CO
    have CH := hide (CH.out hz)
    clear hz
    rw [if_neg (by decide)]
    go_enter Tryz.func22, Tryz.ntmps22
    go_wp2_with fail
    refine CO.out.mono ?_
    rintro e w1 ⟨rfl, rfl⟩
    go_wp2_with fail
    refine CH.out.mono ?_
    rintro e w2 ⟨⟨a3, c3, g3, rfl, o3, p3, q3, r3⟩, n⟩
    go_wp2
    go_ret
    exact ⟨⟨a3, c3, g3, rfl, o3, p3, q3, r3⟩, n⟩
def zer32 : List Int := List.replicate 32 0
theorem zer32_len : zer32.length = 32 := by simp [zer32]
theorem zer32_byt : Byt zer32 := fun i => by
  unfold zer32
  rw [List.getD_eq_getElem?_getD, List.getElem?_replicate]
  split <;> simp
set_option maxHeartbeats 1000000 in
theorem noSecret_any (w : World) :
    Calls Tryz.prog 42 #[] w fun e w' => NewRow w.heap.size w' e .u8 zer32 ∧ Below w.heap.size w w' := by
  obtain ⟨i0, hi, hz0, hz1, hz2⟩ := info_parts Tryz.info5
  go_enter Tryz.func42, Tryz.ntmps42
  go_wp2_with (at_make; refine wpList_make_full _ rfl _ _ 22 rfl w.heap.size 5 i0 (.int .u8 0) 1 Tryz.underlying22 hi hz0 hz1 .i64 .i64 _ _ 32 rfl rfl rfl rfl (by rw [hz2]; decide) (by unfold maxLen; decide) (Nat.le_refl _) ?_; intro w5 hown hgrow)
  have hB0 := Blk.of_made hown
  have hN0 : Below w.heap.size w w5 := (Below.refl _ _).grown hgrow (Nat.le_refl _) (by simp)
  clear hown hgrow
  go_wp2
  go_ret
  exact ⟨⟨_, _, _, rfl, hB0.own0, fun h => by simp at h, by rw [zer32_len]; exact Nat.le_refl _, Nat.le_refl _⟩, hN0⟩
def knL (ks : List Int) : List Int := if ks.length = 0 then zer32 else ks
set_option maxHeartbeats 1000000 in
theorem knownKey_any (w : World) {a : Option Addr} {c : Nat} {ks : List Int} (h1 : Lq w a c ks) :
    Calls Tryz.prog 41 #[.slice a ks.length c] w fun e w' => (∃ a' c', e = .returned (.slice a' (knL ks).length c') ∧ Lq w' a' c' (knL ks)) ∧ Below w.heap.size w w' := by
  have NS := hide (noSecret_any w)
  by_cases h : ks.length = 0
  · have e : knL ks = zer32 := by unfold knL; rw [if_pos h]
    rw [e]
    have t : ((ks.length : Int) == 0) = true := by rw [h]; rfl
    clear h
    go_enter Tryz.func41, Tryz.ntmps41
    go_wp2_with fail
    refine NS.out.mono ?_
    rintro e w2 ⟨⟨a3, c3, g3, rfl, o3, p3, q3, r3⟩, n⟩
    go_wp2
    go_ret
    exact ⟨⟨a3, c3, rfl, Lq.of o3 p3 q3 zer32_byt (by rw [zer32_len]; decide)⟩, n⟩
  · have e : knL ks = ks := by unfold knL; rw [if_neg h]
    rw [e]
    have t : ((ks.length : Int) == 0) = false := beq_eq_false_iff_ne.2 (by omega)
    have L := hide h1
    clear h NS h1
    go_enter Tryz.func41, Tryz.ntmps41
    go_wp2
    go_ret
    exact ⟨⟨a, c, rfl, L.out⟩, Below.refl _ _⟩
theorem rw1 (w : World) (x : Sv) : RwV (w.alloc (.cells #[.slice x.1 x.2.1 x.2.2] 22)) w.heap.size [x] := fun i hi => by
  have h : (w.alloc (.cells #[.slice x.1 x.2.1 x.2.2] 22)).heap[w.heap.size]? = some (.cells #[.slice x.1 x.2.1 x.2.2] 22 (0, 0)) := by show (w.heap.push _)[w.heap.size]? = _; simp
  rw [cell_of_row _ _ _ _ _ _ h]
  obtain rfl : i = 0 := by simp at hi; omega
  rfl
def al1 (w : World) (x : Value) : World := w.alloc (.cells #[x] 22)
theorem al1_up (w : World) (x : Value) : Below w.heap.size w (al1 w x) := (Below.refl _ _).alloc (Nat.le_refl _) _
theorem oth1 (a : Option Addr) (n c : Nat) (ys : List Int) : (if oth [(a, n, c)] = true then [] else ys) = if n = 32 then ys else [] := by
  unfold oth
  by_cases h : n = 32 <;> simp [h]
def eaA (p : List Int) : List Int := if (knL p).length = 32 then macL zer32 (knL p) else []
def bmA (p xs : List Int) : List Int := if (eaA p).length = 32 then macL (labA (labA (eaA p) lbB hE 32) lbF [] 32) (hashL32 xs) else []
set_option maxHeartbeats 1000000 in
theorem implEarlySecret_any (w : World) (hH : HasH w) {a : Option Addr} {c : Nat} {ks : List Int} (h1 : Lq w a c ks) :
    Calls Tryz.prog 21 #[.slice a ks.length c] w fun e w' => NewRow w.heap.size w' e .u8 (eaA ks) ∧ Below w.heap.size w w' := by
  have KK := hide (knownKey_any w h1)
  have NS := fun W => hide (noSecret_any W)
  have TA : ∀ w1 (n0 : Below w.heap.size w w1) a2 c2 (h2 : Lq w1 a2 c2 zer32) a1 c1 (h1 : Lq w1 a1 c1 (knL ks)), Hid (Calls Tryz.prog 22 #[.func (.func 43) #[.agg #[.slice a2 zer32.length c2, .slice a1 (knL ks).length c1]] #[], .slice (some ⟨w1.heap.size, 0, none⟩) 1 1] (w1.alloc (.cells #[.slice a1 (knL ks).length c1] 22)) fun e w' => NewRow w.heap.size w' e .u8 (eaA ks) ∧ Below w.heap.size w w') := by
    intro w1 n0 a2 c2 h2 a1 c1 h1
    show Calls _ _ _ _ _
    have n1 := al1_up w1 (.slice a1 (knL ks).length c1)
    have T := takeExtract_any _ w1.heap.size [(a1, (knL ks).length, c1)] (rw1 w1 (a1, (knL ks).length, c1)) (by simp) (.agg #[.slice a2 zer32.length c2, .slice a1 (knL ks).length c1]) (macL zer32 (knL ks)) (fun _ => sExtract_any _ (hH.up (nxt n0 n1)) (h2.up n1) (h1.up n1))
    rw [oth1, show (if (knL ks).length = 32 then macL zer32 (knL ks) else []) = eaA ks from rfl] at T
    refine T.mono ?_
    rintro e w2 ⟨r, n2⟩
    have z0 := n0.size
    have z1 := n1.size
    exact ⟨r.low (Nat.le_trans z0 z1), nxt (nxt n0 n1) n2⟩
  clear h1 hH
  generalize eaA ks = ys at *
  generalize ks.length = m at *
  generalize knL ks = kk at *
  go_enter Tryz.func21, Tryz.ntmps21
  go_wp2_with fail
  refine KK.out.mono ?_
  rintro e w1 ⟨⟨a1, c1, rfl, L1⟩, n1⟩
  have NS1 := NS w1
  have L1 := hide L1
  clear NS KK
  go_wp2_with fail
  refine NS1.out.mono ?_
  rintro e w2 ⟨⟨a3, c3, g3, rfl, o3, p3, q3, r3⟩, n⟩
  have T := TA w2 (nxt n1 n) a3 c3 (Lq.of o3 p3 q3 zer32_byt (by rw [zer32_len]; decide)) a1 c1 (L1.out.up n)
  clear TA o3 p3 q3 NS1 L1
  generalize zer32.length = m2 at *
  generalize kk.length = m3 at *
  go_wp2_with fail
  refine T.out.mono ?_
  rintro e w2 ⟨⟨a4, c4, g4, rfl, o4, p4, q4, r4⟩, n4⟩
  go_wp2
  go_ret
  exact ⟨⟨a4, c4, g4, rfl, o4, p4, q4, r4⟩, n4⟩
theorem eaA_len (p : List Int) : (eaA p).length ≤ 32 := by
  unfold eaA
  split
  · rw [macL_len]
    exact Nat.le_refl _
  · simp
theorem eaA_byt (p : List Int) : Byt (eaA p) := by
  unfold eaA
  split
  · exact macL_byt _ _
  · exact byt_nil
set_option maxHeartbeats 1000000 in
theorem implBinderMac_any (w : World) (hH : HasH w) {a a' : Option Addr} {c c' : Nat} {ks xs : List Int} (h1 : Lq w a c ks) (h2 : Lq w a' c' xs) :
    Calls Tryz.prog 11 #[.slice a ks.length c, .slice a' xs.length c'] w fun e w' => NewRow w.heap.size w' e .u8 (bmA ks xs) ∧ Below w.heap.size w w' := by
  have KK := hide (implEarlySecret_any w hH h1)
  have NS : ∀ W, Below w.heap.size w W → Hid (Calls Tryz.prog 23 #[.slice a' xs.length c'] W fun e w' => NewRow W.heap.size w' e .u8 (hashL32 xs) ∧ Below W.heap.size W w') := fun W n => by
    obtain ⟨⟨g, r⟩, b, p, q, l⟩ := h2.up n
    exact implHash_32 W g a' c' xs r b q (by omega) (hH.1.up n) (hH.2.up n)
  have TA : ∀ w1 (n0 : Below w.heap.size w w1) a2 c2 (h2 : Lq w1 a2 c2 (hashL32 xs)) a1 c1 (h1 : Lq w1 a1 c1 (eaA ks)), Hid (Calls Tryz.prog 22 #[.func (.func 24) #[.agg #[.slice a1 (eaA ks).length c1, .slice a2 (hashL32 xs).length c2]] #[], .slice (some ⟨w1.heap.size, 0, none⟩) 1 1] (w1.alloc (.cells #[.slice a1 (eaA ks).length c1] 22)) fun e w' => NewRow w.heap.size w' e .u8 (bmA ks xs) ∧ Below w.heap.size w w') := by
    intro w1 n0 a2 c2 h2 a1 c1 h1
    show Calls _ _ _ _ _
    have n1 := al1_up w1 (.slice a1 (eaA ks).length c1)
    have T := takeBind_any _ w1.heap.size [(a1, (eaA ks).length, c1)] (rw1 w1 (a1, (eaA ks).length, c1)) (by simp) (.agg #[.slice a1 (eaA ks).length c1, .slice a2 (hashL32 xs).length c2]) (macL (labA (labA (eaA ks) lbB hE 32) lbF [] 32) (hashL32 xs)) (fun _ => sBind_any _ (hH.up (nxt n0 n1)) (h1.up n1) (h2.up n1))
    rw [oth1, show (if (eaA ks).length = 32 then macL (labA (labA (eaA ks) lbB hE 32) lbF [] 32) (hashL32 xs) else []) = bmA ks xs from rfl] at T
    refine T.mono ?_
    rintro e w2 ⟨r, n2⟩
    have z0 := n0.size
    have z1 := n1.size
    exact ⟨r.low (Nat.le_trans z0 z1), nxt (nxt n0 n1) n2⟩
  clear h1 hH h2
  have EL := hide (eaA_len ks)
  have EB := hide (eaA_byt ks)
  have HL := hide (hash_len32 xs)
  have HB := hide (hash_byt32 xs)
  generalize bmA ks xs = ys at *
  generalize ks.length = m at *
  generalize eaA ks = kk at *
  generalize hashL32 xs = hh at *
  generalize xs.length = m1 at *
  go_enter Tryz.func11, Tryz.ntmps11
  go_wp2_with fail
  refine KK.out.mono ?_
  rintro e w1 ⟨⟨a1, c1, g1, rfl, o1, p1, q1, r1⟩, n1⟩
  have NS1 := NS w1 n1
  have L1 := hide (Lq.of o1 p1 q1 EB.out (by have := EL.out; omega))
  clear NS KK o1 p1 q1
  go_wp2_with fail
  refine NS1.out.mono ?_
  rintro e w2 ⟨⟨a3, c3, g3, rfl, o3, p3, q3, r3⟩, n⟩
  have T := TA w2 (nxt n1 n) a3 c3 (Lq.of o3 p3 q3 HB.out (by have := HL.out; omega)) a1 c1 (L1.out.up n)
  clear TA o3 p3 q3 NS1 L1 HL HB EL EB
  generalize hh.length = m2 at *
  generalize kk.length = m3 at *
  go_wp2_with fail
  refine T.out.mono ?_
  rintro e w2 ⟨⟨a4, c4, g4, rfl, o4, p4, q4, r4⟩, n4⟩
  go_wp2
  go_ret
  exact ⟨⟨a4, c4, g4, rfl, o4, p4, q4, r4⟩, n4⟩
end Go.Proofs.YtmfajpplagbfcaaGreatDoor
namespace Go.Proofs.YtmfajpplagbfcaaGreatDoor
set_option maxRecDepth 100000
open Go.RowKit
theorem copy_min {P : Program} (w : World) (ty rt e : TypeId) (hu : P.underlying ty = some (.slice e)) (hsz : (P.info? e).map (·.size) = some 1) {g : Nat} {k : IntKind} {zs : List Int} (hB : Blk w g k zs)
    (gs : Nat) (sp : Option Addr) (ys : List Int) (hr : Rd w gs sp k ys) (dc sc : Nat) :
    ∃ w2, (Builtin.copy_ #[ty, ty] rt #[.slice (some ⟨g, 0, none⟩) zs.length dc, .slice sp ys.length sc]).run P w = .ok (goInt (ys.take zs.length).length) w2 ∧ Blk w2 g k (ys.take zs.length ++ zs.drop (ys.take zs.length).length) ∧ Only g w w2 := by
  by_cases h0 : 0 < ys.length
  · obtain ⟨off, rfl, hc⟩ := hr h0
    obtain ⟨t, hB⟩ := hB
    have hrun := run_copy_row (P := P) w ty ty rt e g 0 zs.length dc ⟨gs, off, none⟩ ys.length sc _ t ((ys.take zs.length).map (Value.int k)) hu hsz hB (by simp [Nat.min_comm])
      (fun j v hj => by
        have hjl : j < (ys.take zs.length).length := by
          have := (List.getElem?_eq_some_iff.1 hj).1
          simpa using this
        have hj1 : j < ys.length := by simp at hjl; omega
        have hj2 : j < zs.length := by simp at hjl; omega
        rw [add_mid, hc j hj1]
        simpa [hj1, hj2, List.getElem?_take] using hj) (by simp; omega) (oneCells _ _)
    rw [List.length_map] at hrun
    refine ⟨_, hrun, ⟨t, ?_⟩, ⟨rfl, rfl, rfl, by simp, fun i hi => setRow_other w g i _ hi⟩⟩
    rw [setRow_heap w g _ _ t _ hB]
    simp
  · obtain rfl : ys = [] := List.eq_nil_of_length_eq_zero (by omega)
    exact ⟨w, by simpa using run_copy_none (P := P) w ty ty rt e _ _ _ _ _ _ hu hsz (by simp), by simpa using hB, Only.refl _ _⟩
def to32 (xs : List Int) : List Int := xs.take 32 ++ (List.replicate 32 0).drop (xs.take 32).length
theorem to32_len (xs : List Int) : (to32 xs).length = 32 := by
  unfold to32
  rw [List.length_append, List.length_drop, List.length_replicate, List.length_take]
  omega
theorem to32_byt {xs : List Int} (h : Byt xs) : Byt (to32 xs) := by
  intro i
  unfold to32
  by_cases hi : i < (xs.take 32).length
  · have h1 := h i
    have h2 : i < 32 := by simp at hi; omega
    have e : (xs.take 32 ++ (List.replicate 32 (0 : Int)).drop (xs.take 32).length).getD i 0 = xs.getD i 0 := by
      rw [List.getD_eq_getElem?_getD, List.getElem?_append, if_pos hi, List.getElem?_take, if_pos h2, List.getD_eq_getElem?_getD]
    rw [e]; exact h1
  · rw [List.getD_eq_getElem?_getD, List.getElem?_append, if_neg hi, List.getElem?_drop, List.getElem?_replicate]
    split <;> simp
set_option maxRecDepth 100000 in
set_option maxHeartbeats 1000000 in
theorem lw32_any (w : World) (g : Nat) (a : Option Addr) (c : Nat) (xs : List Int) (ha : Rd w g a .u8 xs) :
    Calls Tryz.prog 8 #[.slice a xs.length c] w fun e w' => e = .returned (.slice (some ⟨w.heap.size, 0, none⟩) 32 32) ∧ Blk w' w.heap.size .u8 (to32 xs) ∧ Below w.heap.size w w' := by
  obtain ⟨i0, hi, hz0, hz1, hz2⟩ := info_parts Tryz.info5
  have hsz : (Tryz.prog.info? 5).map (·.size) = some 1 := by rw [hi]; simp [hz1]
  go_enter Tryz.func8, Tryz.ntmps8
  go_wp2_with (at_make; refine wpList_make_full _ rfl _ _ 22 rfl w.heap.size 5 i0 (.int .u8 0) 1 Tryz.underlying22 hi hz0 hz1 .i64 .i64 _ _ 32 rfl rfl rfl rfl (by rw [hz2]; omega) (by unfold maxLen; omega) (Nat.le_refl _) ?_; intro w1 hown hgrow)
  have hB := Blk.of_made hown
  have hN : Below w.heap.size w w1 := (Below.refl _ _).grown hgrow (Nat.le_refl _) (by simp)
  obtain ⟨w2, hrun, hB2, hO⟩ := copy_min (P := Tryz.prog) w1 22 3 5 Tryz.underlying22 hsz hB g a xs (ha.up hN) 32 c
  rw [List.length_replicate] at hrun
  have hN2 := hN.trans (hO.below (Nat.le_refl _))
  rw [hrun]
  clear hown hgrow hB hN hO hrun
  go_wp2
  go_ret
  exact ⟨rfl, hB2, hN2⟩
end Go.Proofs.YtmfajpplagbfcaaGreatDoor
namespace Go.Proofs.YtmfajpplagbfcaaGreatDoor
set_option maxRecDepth 100000
open Go.RowKit
set_option maxHeartbeats 400000 in
theorem lwCopyO_any (w : World) (g : Nat) (a : Option Addr) (cap : Nat) (xs : List Int) (hr : Rd w g a .u8 xs) (hc : a = none → cap = 0) (hn : xs.length ≤ 1048576) :
    Calls Tryz.prog 10 #[.slice a xs.length cap] w fun e w' => ∃ v, e = .returned v ∧ w'.ownsRow w.heap.size 5 1 v xs.length (xs.map (Value.int .u8)) ∧ Below w.heap.size w w' := by
  obtain ⟨i0, hi, hz0, hz1, hz2⟩ := info_parts Tryz.info5
  have hown : (w.alloc (.cells #[] 5)).ownsRow w.heap.size 5 1 (.slice (some ⟨w.heap.size, 0, none⟩) 0 0) 0 [] := World.ownsRow_lit w #[] 0 (Nat.le_refl _) (by unfold maxLen; omega) (by simp)
  have hal : Below w.heap.size w (w.alloc (.cells #[] 5)) := (Below.refl _ _).alloc (Nat.le_refl _) _
  cases a with
  | none =>
    obtain rfl : xs = [] := by
      by_cases h0 : 0 < xs.length
      · obtain ⟨off, h, _⟩ := hr h0
        simp at h
      · exact List.eq_nil_of_length_eq_zero (by omega)
    obtain rfl := hc rfl
    go_enter Tryz.func10, Tryz.ntmps10
    go_wp2_with (at_builtin; refine wpList_append_own_none rfl _ _ 22 rfl w.heap.size 5 i0 1 Tryz.underlying22 hi _ 0 [] rfl hown rfl ?_)
    go_ret
    exact ⟨_, rfl, hown, hal⟩
  | some ad =>
    have hcell : ∀ j u, (xs.map (Value.int .u8))[j]? = some u → (w.alloc (.cells #[] 5)).cell? (ad.add j) = some u := by
      intro j u hj
      have hjl : j < xs.length := by
        have := (List.getElem?_eq_some_iff.1 hj).1
        simpa using this
      obtain ⟨off, ha, hcc⟩ := (hr.up hal) (by omega)
      simp only [Option.some.injEq] at ha
      subst ha
      rw [Addr.add_mid, hcc j hjl]
      simpa [hjl] using hj
    have hone : ∀ u ∈ xs.map (Value.int .u8), u.oneCell' = true := by
      intro u hu
      obtain ⟨x, _, rfl⟩ := List.mem_map.1 hu
      rfl
    go_enter Tryz.func10, Tryz.ntmps10
    go_wp2_with (at_builtin; refine wpList_append_own _ rfl _ _ 22 rfl w.heap.size 5 i0 (.int .u8 0) 1 1 Tryz.underlying22 hi hz0 hz1 hz2 rfl (by decide) (.slice (some ⟨w.heap.size, 0, none⟩) 0 0) 0 [] rfl hown ad xs.length cap (xs.map (Value.int .u8)) rfl (by simp) hcell hone (by unfold maxLen; omega) (by omega) (by simp) ?_; intro v' w1 hown' hgrow _)
    simp only [Nat.zero_add, List.nil_append] at hown'
    have hB : Below w.heap.size w w1 := hal.grown hgrow (by simp) (by intro k hk; simp [Value.ownBlock] at hk; omega)
    clear hgrow hown
    go_wp2
    go_ret
    exact ⟨_, rfl, hown', hB⟩
theorem rd_of_row0 {w : World} {a : Option Addr} {len cap : Nat} {zs : List Int}
    (h : (a = none ∧ len = 0 ∧ cap = 0 ∧ zs = []) ∨ ∃ x, a = some x ∧ len ≤ cap ∧ cap ≤ maxLen ∧ zs.length = cap ∧ (∀ i, i < zs.length → w.cell? (x.add i) = some (.int .u8 (zs.getD i 0))) ∧ ∀ n ∈ zs, (Lit.int .u8 n).wf = true) :
    ∃ (g : Nat) (xs : List Int), xs.length = len ∧ Rd w g a .u8 xs ∧ Byt xs ∧ (a = none → cap = 0) := by
  obtain ⟨g, xs, hl, r, b⟩ := rd_of_row h
  refine ⟨g, xs, hl, r, b, fun e => ?_⟩
  rcases h with ⟨_, _, h, _⟩ | ⟨_, h, _⟩
  · exact h
  · rw [h] at e
    exact nomatch e
end Go.Proofs.YtmfajpplagbfcaaGreatDoor
namespace Go.Proofs.YtmfajpplagbfcaaGreatDoor
set_option maxRecDepth 100000
open Go Go.RowKit
section
variable {P : Program} {ops : Array Oper} {Q : Exit → Act → World → Prop} {md : Region.Mode} {F : Nat → Fact} {a0 : Act} {w0 : World}
theorem wanted_some {o : Oper} {a : Act} {g d : Nat} {v : Bool} (h : o.guard = some (g, v)) (hd : writes ops g d = true) (e : a.tmps.getD d undef = .bool v) : Region.wanted o (yielded ops a.tmps) = true := by
  obtain ⟨og, ho, hd'⟩ := writes_is hd
  have e1 : a.tmps[d]? = some (.bool v) := by
    rw [Array.getD_eq_getD_getElem?] at e
    cases hq : a.tmps[d]? with
    | none => rw [hq] at e; simp [undef] at e
    | some x => rw [hq] at e; simpa using e
  simp [Region.wanted, h, yielded, ho, hd', e1]
end
end Go.Proofs.YtmfajpplagbfcaaGreatDoor
