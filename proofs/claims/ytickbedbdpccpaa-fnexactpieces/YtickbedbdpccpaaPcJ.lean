
/-
  The program's Pieces: its loop over a function.
-/
import Derived.Test.YtickbedbdpccpaaPcI
namespace Go.Proofs.Ytickbedbdpccpaa
open Go Go.RowKit Go.Shelf
attribute [local go_sem] Oper.semAt_some

def offP : Option Addr → Nat
  | none => 0
  | some a => a.off
theorem offP_of {w : World} {g : Nat} {a : Option Addr} {k : IntKind} {xs : List Int} (h : Rd w g a k xs) (h0 : 0 < xs.length) : a = some ⟨g, offP a, none⟩ := by
  obtain ⟨o, rfl, _⟩ := h h0
  rfl
set_option maxRecDepth 100000 in
set_option maxHeartbeats 8000000 in
theorem implPieces_any (w : World) (g : Nat) (a : Option Addr) (c : Nat) (xs : List Int) (hr : Rd w g a .u8 xs) (hc : xs.length ≤ c) (hn : xs.length ≤ 1048576) :
    Calls Try.prog 13 #[.slice a xs.length c] w fun e w' => NewB w.heap.size w' e xs ∧ Below w.heap.size w w' := by
  have DN := hide hn
  have DC := hide hc
  have n0 : Below w.heap.size w (w.alloc (.cells #[.slice none 0 0] 28)) := (Below.refl _ _).alloc (Nat.le_refl _) _
  have T0 := RwC.new w [.slice none 0 0] 28
  have s0 : (w.alloc (.cells #[.slice none 0 0] 28)).heap.size = w.heap.size + 1 := by simp
  clear hn hc
  refine (callsIn_wide (n := 5)).1 (callsIn_of_wp_marks Try.func13 rfl trivial ?_ rfl)
  refine wpIn_wide.2 ?_
  simp only [Try.ntmps13, List.size_toArray, List.length_cons, List.length_nil, Nat.reduceAdd, Nat.reduceSub, Array.replicate_succ, Array.replicate_zero, List.push_toArray, List.append_toArray, List.nil_append, List.cons_append]
  go_upto_region 2 with fail
  generalize w.alloc (.cells #[.slice none 0 0] 28) = wd at *
  go_wp2_with fail
  refine (chunk_any2k wd a xs.length c).mono ?_
  rintro e w6 ⟨rfl, rfl⟩
  have n5 : Below wd.heap.size wd (wd.alloc (.cells #[.slice a xs.length c] 22)) := (Below.refl _ _).alloc (Nat.le_refl _) _
  have C5 : (wd.alloc (.cells #[.slice a xs.length c] 22)).cell? ⟨wd.heap.size, 0, none⟩ = some (.slice a xs.length c) := by simp [World.cell?_alloc_at]
  have z5 : (wd.alloc (.cells #[.slice a xs.length c] 22)).heap.size = wd.heap.size + 1 := by simp
  generalize wd.alloc (.cells #[.slice a xs.length c] 22) = w5 at *
  have n6 : Below w5.heap.size w5 (w5.alloc (.cells #[.int .i64 2048] 3)) := (Below.refl _ _).alloc (Nat.le_refl _) _
  have C6 : (w5.alloc (.cells #[.int .i64 2048] 3)).cell? ⟨w5.heap.size, 0, none⟩ = some (.int .i64 2048) := by simp [World.cell?_alloc_at]
  have z6 : (w5.alloc (.cells #[.int .i64 2048] 3)).heap.size = w5.heap.size + 1 := by simp
  generalize w5.alloc (.cells #[.int .i64 2048] 3) = w6 at *
  rw [s0] at C5 z5 ⊢
  rw [z5] at C6 z6
  have N6 : Below w.heap.size w w6 := nxt (nxt n0 n5) n6
  have I0 : PiI w w.heap.size (w.heap.size + 3) xs [] w6 := ⟨⟨_, [], [], (T0.up n5).up n6, ⟨⟨rfl, .inl ⟨rfl, rfl⟩⟩, rfl, fun i h => absurd h (by simp), fun i h => absurd h (by simp), fun i j h => absurd h (by simp)⟩, rfl, fun _ => rfl⟩, by omega, N6⟩
  have D5 : w6.cell? ⟨w.heap.size + 1, 0, none⟩ = some (.slice a xs.length c) := (World.cell?_of_block (a := ⟨w.heap.size + 1, 0, none⟩) (n6.block (w.heap.size + 1) (by omega))).trans C5
  have S6 : Hid (w6.heap.size = w.heap.size + 3) := by show _ = _; omega
  clear n5 n6 C5 s0 z5 z6 N6 T0 n0
  go_wp2
  refine (wpIn_wide (n := 5)).1 (wpIn_rangeFunc_ownG (n := 5) rfl (by omega) (gf := 30) (lb := #[.pointer (some ⟨w.heap.size + 1, 0, none⟩), .pointer (some ⟨w.heap.size + 1 + 1, 0, none⟩)]) rfl trivial (enters_of Try.func30 (by kernel_rfl) rfl)
    (chunk_stops2k 4 (by omega) (w.heap.size + 1) (w.heap.size + 1 + 1) g (offP a) xs.length c a (fun h => offP_of hr h) DC.out (by have := DN.out; omega) w6 (by have := S6.out; omega) (by have := S6.out; omega) D5 C6) KpB.t (KpB.b (by have := S6.out; omega) (by have := S6.out; omega)) (Below.refl _ _) (fun _ => rfl)
    (PiI w w.heap.size (w.heap.size + 3) xs) (fun _ _ _ => False) (piI_own (by have := S6.out; omega)) (fun _ _ _ _ _ h _ _ => h) I0
    (fun x => { tmps := #[.slice a xs.length c, undef, .slice none 0 0, .pointer (some ⟨w.heap.size, 0, none⟩), .slice (some ⟨g, offP a + 2048 * x.1, none⟩) (pcL2k xs.length x.1) (pcL2k xs.length x.1), .slice a xs.length c, Value.func (Fn.func 30) #[] #[Value.pointer (some ⟨w.heap.size + 1, 0, none⟩), Value.pointer (some ⟨w.heap.size + 1 + 1, 0, none⟩)], .slice (some ⟨g, offP a + 2048 * x.1, none⟩) (pcL2k xs.length x.1) (pcL2k xs.length x.1), undef, undef, undef, undef, undef, undef, undef], defers := [] }) ?assign ?body ?done ?stop)
  case assign =>
    intro l x W K hK
    unfold pcE2k
    gi_wp2
    exact hK
  case body =>
    rintro l pre x W hI hlen
    obtain ⟨v, bs, its, t1, t2, t3, t4⟩ := hI.told
    have sz := hI.siz
    have be := hI.bel
    have xl := x.2
    have ea := offP_of hr (show 0 < xs.length by omega)
    obtain ⟨pe, hpe⟩ : ∃ e, e = pcL2k xs.length x.1 := ⟨_, rfl⟩
    have PL : Hid ((pce xs x.1).length = pe) := by show _ = _; rw [pce_len, hpe]; rfl
    have PR : Hid (Rd w g (some ⟨g, offP a + 2048 * x.1, none⟩) .u8 (pce xs x.1)) := by
      rw [ea] at hr
      exact rd_pce hr x.1
    have NX := hide fun W9 vS b9 hG => PiI.next (w := w) (W9 := W9) (vS := vS) x t1 t2 t3 t4 sz be (Nat.le_refl _) (by omega) (by have := DN.out; omega) b9 hG
    have yq := t1.c0
    have lq := t1.lt
    obtain ⟨ra, rc, ev, -⟩ := t2.slice
    obtain ⟨p1, hp1⟩ : ∃ p1, p1 = its.length := ⟨_, rfl⟩
    rw [← hp1] at ev
    subst ev
    have pb : pe ≤ 2048 := by rw [hpe]; unfold pcL2k; omega
    rw [← hpe]
    clear hpe hI t1 t2 t3 t4 hp1 ea
    gi_wp2_with fail
    refine region_appP_in 5 0 4 8 12 13 28 _ _ (fun i => [Fact.eq (.slice ra p1 rc), Fact.eq (.slice (some ⟨g, offP a + 2048 * x.1, none⟩) pe pe), PRb W.heap.size (pce xs x.1), PBl W.heap.size (pce xs x.1), PBr W.heap.size (pce xs x.1)].getD i Fact.no) (PBr W.heap.size (pce xs x.1)) (.slice ra p1 rc) w.heap.size (fun v' w4 => (∃ ra p rc, v' = .slice ra p rc) ∧ w4.cell? ⟨w.heap.size, 0, none⟩ = some (.slice ra p1 rc) ∧ w4.frozen? ⟨w.heap.size, 0, none⟩ = false ∧ (KeepsFrom (w.heap.size + 3) W (w4.setCell ⟨w.heap.size, 0, none⟩ v') ∧ KpB (w.heap.size + 1) (w.heap.size + 2) W (w4.setCell ⟨w.heap.size, 0, none⟩ v') ∧ PiI w w.heap.size (w.heap.size + 3) xs (pre ++ [x]) (w4.setCell ⟨w.heap.size, 0, none⟩ v'))) (by kernel_rfl) (by rintro ⟨_, _, h⟩; exact h) (by kernel_rfl) (by kernel_rfl) rfl rfl rfl rfl rfl (by simp) ?_ ⟨by kernel_rfl, by kernel_rfl⟩ rfl ⟨by kernel_rfl, by kernel_rfl⟩ rfl ?_ NX.out ?_
    · rintro A W4 v' hb e1 ⟨⟨ra2, p2, rc2, rfl⟩, c1, f1, -⟩ hQ
      have e0 : A.tmps[3]?.getD undef = .pointer (some ⟨w.heap.size, 0, none⟩) := gdv (hb.2.2 3 (by kernel_rfl))
      have e1 : A.tmps[13]?.getD undef = .slice ra2 p2 rc2 := gdv e1
      unfold Oper.wp
      simp [go_sem, e0, e1, c1, f1]
      exact hQ
    · intro i hi
      obtain rfl | rfl | rfl | rfl | rfl : i = 0 ∨ i = 1 ∨ i = 2 ∨ i = 3 ∨ i = 4 := by omega
      · refine step_pure rfl fun A ww hb hw hf => ?_
        have e0 : A.tmps[3]?.getD undef = .pointer (some ⟨w.heap.size, 0, none⟩) := gdv (hb.2.2 3 (by kernel_rfl))
        have hc : ww.cell? ⟨w.heap.size, 0, none⟩ = some (.slice ra p1 rc) := (World.cell?_of_block (a := ⟨w.heap.size, 0, none⟩) (hw.block w.heap.size lq)).trans yq
        exact ⟨.slice ra p1 rc, by simp [go_sem, e0, hc], rfl⟩
      · refine step_pure rfl fun A ww hb hw hf => ?_
        have e0 : A.tmps[4]?.getD undef = .slice (some ⟨g, offP a + 2048 * x.1, none⟩) pe pe := gdv (hb.2.2 4 (by kernel_rfl))
        exact ⟨.slice (some ⟨g, offP a + 2048 * x.1, none⟩) pe pe, by simp [go_sem, e0], rfl⟩
      · refine step_callv rfl 23 _ _ rfl (by kernel_rfl) fun A ww hb hw hf => ?_
        have e6 : A.tmps.getD 9 undef = .slice (some ⟨g, offP a + 2048 * x.1, none⟩) pe pe := hf 1 9 (by kernel_rfl)
        show Calls Try.prog 23 #[A.tmps.getD 9 undef] ww _
        rw [e6]
        have CL := cloneR_any ww g (some ⟨g, offP a + 2048 * x.1, none⟩) pe (pce xs x.1) (PR.out.up (nxt be hw)) (by simp) (by rw [PL.out]; omega)
        rw [PL.out] at CL
        refine CL.mono ?_
        rintro r w' ⟨y, rfl, R, l⟩
        exact ⟨y, rfl, l, R.base hw.size⟩
      · refine step_pure rfl fun A ww hb hw hf => ?_
        have r8 : RowB ww W.heap.size (A.tmps.getD 10 undef) (pce xs x.1) := hf 2 10 (by kernel_rfl)
        obtain ⟨ad, cd, gd, ev, -⟩ := r8.own
        rw [ev] at r8
        have e1 : A.tmps[10]?.getD undef = .slice ad (pce xs x.1).length cd := gdv ev
        refine ⟨.agg #[.slice ad (pce xs x.1).length cd], ?_, ad, cd, rfl, r8⟩
        simp [go_sem, e1]
      · refine step_grow rfl fun A ww hb hw hf => ?_
        obtain ⟨ad, cd, ev, r8⟩ : ∃ ad cd, A.tmps.getD 11 undef = .agg #[.slice ad (pce xs x.1).length cd] ∧ RowB ww W.heap.size (.slice ad (pce xs x.1).length cd) (pce xs x.1) := hf 3 11 (by kernel_rfl)
        have e1 : A.tmps[11]?.getD undef = .agg #[.slice ad (pce xs x.1).length cd] := gdv ev
        have na : Below ww.heap.size ww (ww.alloc (.cells #[.slice ad (pce xs x.1).length cd] 38)) := (Below.refl _ _).alloc (Nat.le_refl _) _
        refine ⟨.slice (some ⟨ww.heap.size, 0, none⟩) 1 1, ww.alloc (.cells #[.slice ad (pce xs x.1).length cd] 38), ?_, na, ww.heap.size, ad, cd, rfl, RwC.new ww _ _, r8.up na⟩
        simp [go_sem, e1]
    · rintro vs W4 v' ⟨-, -, -, FIN⟩
      simp only [puts, Act.put, List.setIfInBounds_toArray, List.set_cons_succ, List.set_cons_zero]
      generalize W4.setCell ⟨w.heap.size, 0, none⟩ v' = W5 at *
      gi_wp2
      rw [S6.out]
      exact FIN
  case done =>
    rintro D xx W hD hS hI hK
    have yl : xx.length = (xs.length + 2047) / 2048 := by have := congrArg List.length hS; simpa using this
    obtain ⟨v, bs, its, t1, t2, t3, t4⟩ := hI.told
    rw [← yl] at hS
    have ez := t4 hS
    rw [yl] at ez
    subst ez
    have hdd : w.heap.size + 2 < D := by have := S6.out; omega
    have R9 : BRow (W.putObj D (.deferred none)) (w.heap.size + 3) v (pces xs (pcN xs)) bs := t2.ofK (grownBy_putObj' W D _) (fun r e => by cases e; exact ⟨_, hK, rfl⟩)
    have N9 : Below w.heap.size w (W.putObj D (.deferred none)) := hI.bel.trans (belowK_b (w := w) (Nat.le_refl _) W D _ _ (by omega) hK rfl rfl)
    have c0 := t1.c0
    obtain ⟨ra, rc, ev, -⟩ := t2.slice
    obtain ⟨p1, hp1⟩ : ∃ p1, p1 = (pces xs ((xs.length + 2047) / 2048)).length := ⟨_, rfl⟩
    rw [← hp1] at ev
    subst ev
    have RB := hide (R9.base (C := w.heap.size) (by omega))
    clear t1 t2 t3 t4 hI yl hS R9 hp1
    go_wp2
    refine ⟨by simp, .inl ⟨_, _, rfl, run_takeDeferred hK, ?_⟩⟩
    exact ⟨_, results_tmp rfl _ _ _, ⟨.slice ra p1 rc, bs, by rfl, RB.out⟩, N9⟩
  case stop =>
    rintro D c pre W hD hs h hK
    exact h.elim
end Go.Proofs.Ytickbedbdpccpaa
