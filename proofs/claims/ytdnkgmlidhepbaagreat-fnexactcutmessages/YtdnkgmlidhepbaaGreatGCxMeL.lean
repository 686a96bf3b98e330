import Derived.Test.YtdnkgmlidhepbaaGreatGC34
namespace Go.Proofs.YtdnkgmlidhepbaaGreat
open Go Go.RowKit
def curJ (ms : List Msg) (es : List El) (j i : Nat) : List Value := if i < j then mkV (es.getD i el0).p (ms.getD i msg0) (kS ms i) else (mgV (es.getD i el0).p (ms.getD i msg0)).toList
theorem curJ_len (ms : List Msg) (es : List El) (j i : Nat) : (curJ ms es j i).length = 13 := by unfold curJ; split <;> rfl
theorem curJ_ne (ms : List Msg) (es : List El) (j i : Nat) (h : i ≠ j) : curJ ms es (j + 1) i = curJ ms es j i := by
  unfold curJ
  by_cases h1 : i < j
  · rw [if_pos h1, if_pos (by omega)]
  · rw [if_neg h1, if_neg (by omega)]
theorem curJ_at (ms : List Msg) (es : List El) (j : Nat) : curJ ms es (j + 1) j = mkV (es.getD j el0).p (ms.getD j msg0) (kS ms j) := by unfold curJ; rw [if_pos (by omega)]
def MkR (W : World) (v : Value) (ms : List Msg) (es : List El) : Prop := ∀ g c, v = .slice (some ⟨g, 0, none⟩) ms.length c → 0 < ms.length → g < W.heap.size ∧ (∀ i, i < ms.length → W.rangeAt g (i * 13) (mkV (es.getD i el0).p (ms.getD i msg0) (kS ms i))) ∧ ∀ i, i < ms.length → MkG W (es.getD i el0).p (ms.getD i msg0) (es.getD i el0).bs (kS ms i)
theorem MkR.up {W W' : World} {v : Value} {ms : List Msg} {es : List El} (h : MkR W v ms es) (n : Below W.heap.size W W') : MkR W' v ms es := fun g c e h0 => by
  obtain ⟨h1, h2, h3⟩ := h g c e h0
  exact ⟨Nat.lt_of_lt_of_le h1 n.size, fun i hi f u hu => (World.cell?_of_block (a := ⟨g, i * 13 + f, none⟩) (n.block g h1)).trans (h2 i hi f u hu), fun i hi => (h3 i hi).up n⟩
theorem RJ.set0 {W : World} {g n j : Nat} {cur : Nat → List Value} {L : List Value} (h : RJ W g n j cur L) (v : Value) : RJ (W.setCell ⟨g, j * 13, none⟩ v) g n j cur (L.set 0 v) := h.set 0 (by decide) v
theorem RJ.ch {W W' : World} {g n j lo hi : Nat} {cur : Nat → List Value} {L : List Value} (h : RJ W g n j cur L) (C : Ch lo hi W W') (hg : g < lo ∨ hi ≤ g) : RJ W' g n j cur L := h.of (C.block g h.lt hg)
set_option maxHeartbeats 1000000 in
theorem markMessageS_0 (w : World) (a : Option Addr) (c : Nat) (k : Int) :
    Calls Tryz.prog 31 #[.slice a 0 c, .int .i64 k] w fun e w' => e = .returned (.int .i64 k) ∧ w' = w := by
  go_enter Tryz.func31, Tryz.ntmps31
  go_wp2
  go_loopw [1, 5] (fun x i wr => x = .int .i64 k ∧ i = .int .i64 0 ∧ wr = w) (fun _ _ _ => 0)
  case atStart => exact ⟨rfl, rfl, rfl⟩
  case round =>
    obtain ⟨rfl, rfl, rfl⟩ := hrel
    go_wp2
    go_ret
    exact ⟨rfl, rfl⟩
set_option maxRecDepth 100000 in
set_option maxHeartbeats 16000000 in
theorem markMessageS_row (w : World) (B H : Nat) (v : Value) (ms : List Msg) (es : List El) (h : MRow w B v ms es) (sm : ∀ i, i < ms.length → SmM (ms.getD i msg0)) (hl : ms.length ≤ 262144) (hH : ∀ i, i < ms.length → (es.getD i el0).F 7 ≤ H) (hv : ∀ g, v.ownBlock = some g → g < H) :
    Calls Tryz.prog 31 #[v, .int .i64 1] w fun e w' => e = .returned (.int .i64 (kS ms ms.length : Int)) ∧ MkR w' v ms es ∧ Ch B H w w' := by
  by_cases h0 : ¬ 0 < ms.length
  · obtain ⟨a, c, rfl, -⟩ := h.slice
    have z : ms.length = 0 := by omega
    have e1 : kS ms ms.length = 1 := by rw [z]; rfl
    rw [e1, z]
    refine (markMessageS_0 w a c 1).mono ?_
    rintro e w' ⟨rfl, rfl⟩
    exact ⟨rfl, fun _ _ _ h1 => absurd h1 h0, Ch.refl _ _ _⟩
  have h0 : 0 < ms.length := by omega
  obtain ⟨g, c, rfl, hBg, hg, -, hc, hz⟩ := h.cells h0
  have gH : g < H := hv g rfl
  have FN := hide fun i (hi : i < ms.length) => (h.b i hi).fen
  have HF := hide fun i (hi : i < ms.length) => And.intro (h.h i hi).1 ((h.h i hi).2 g rfl)
  have HD := hide h.d
  have HT := hide h.t
  have HH := hide hH
  have A0 := hide h.b
  have SM := hide sm
  have KB := hide (kS_bd sm)
  have R0 := hide hc
  have Z0 := hide hz
  have B0 := hide (And.intro hBg gH)
  clear h sm hH hv hc hz h0 hBg gH
  obtain ⟨n, hn⟩ : ∃ n, n = ms.length := ⟨_, rfl⟩
  rw [← hn] at hl ⊢
  have HN := hide hn
  clear hn
  go_enter Tryz.func31, Tryz.ntmps31
  go_wp2
  go_loopw [1, 5] (fun x i wr => ∃ j : Nat, j ≤ n ∧ i = .int .i64 j ∧ x = .int .i64 (kS ms j : Int) ∧ Hid (∀ i, i < n → wr.rangeAt g (i * 13) (curJ ms es j i)) ∧ Hid (∀ o, wr.frozen? ⟨g, o, none⟩ = false) ∧ Hid (∀ i, i < j → MkG wr (es.getD i el0).p (ms.getD i msg0) (es.getD i el0).bs (kS ms i)) ∧ Hid (∀ i, j ≤ i → i < n → AnsC wr (es.getD i el0).F (es.getD i el0).p (ms.getD i msg0) (es.getD i el0).bs) ∧ Hid (g < wr.heap.size) ∧ Hid (Ch B H w wr)) (fun _ i _ => n - (intOf i).toNat)
  case atStart => exact ⟨0, Nat.zero_le _, rfl, rfl, fun i hi => by unfold curJ; rw [if_neg (by omega)]; exact R0.out i (by rw [← HN.out]; exact hi), Z0.out, fun i hi => absurd hi (by omega), fun i _ hi => A0.out i (by rw [← HN.out]; exact hi), hg, Ch.refl _ _ _⟩
  case round =>
    obtain ⟨j, hj, rfl, rfl, hR, hZ, hM, hA, hG, hC⟩ := hrel
    by_cases hlt : j < n
    · have hlt' : j < ms.length := by rw [← HN.out]; exact hlt
      have t0 : (j : Int) < (n : Int) := by omega
      have sm := SM.out j hlt'
      have kb := KB.out j (by omega)
      have AC := hide (hA.out j (Nat.le_refl _) hlt)
      have fn := FN.out j hlt'
      have hf := HF.out j hlt'
      have KN : Hid (kS ms (j + 1) = gG (kS ms j) (ms.getD j msg0)) := rfl
      have RJ0 : RJ wr g n j (curJ ms es j) (mgV (es.getD j el0).p (ms.getD j msg0)).toList := ⟨by have := hR.out j hlt; unfold curJ at this; rw [if_neg (by omega)] at this; exact this, fun i hi _ => hR.out i hi, hZ.out, rfl, fun i _ => curJ_len ms es j i⟩
      have CE := hide (curJ_at ms es j)
      obtain ⟨k, hk⟩ : ∃ k, k = kS ms j := ⟨_, rfl⟩
      rw [← hk] at kb KN CE ⊢
      have HK := hide hk
      clear hk
      generalize hm : ms.getD j msg0 = m at *
      generalize hp : (es.getD j el0).p = p at *
      generalize hbs : (es.getD j el0).bs = bs at *
      generalize hF : (es.getD j el0).F = F at *
      have HM := hide hm
      have HP := hide hp
      have HBS := hide hbs
      have HFF := hide hF
      clear hm hp hbs hF
      have mo := fn.mono
      have la := sm.a
      have lc := sm.c
      have lz := hide sm.z
      have lf := sm.f
      have kbd : k ≤ 838860801 * 1000 := by omega
      have eF := gF_is k sm
      have bE := gE_bd k sm
      have bF := gF_bd k sm
      clear hR hZ kb sm hG
      obtain ⟨k1, f1⟩ : ∃ x, Hid (k + 1 = x) := ⟨_, rfl⟩
      obtain ⟨k2, f1b⟩ : ∃ x, Hid (k1 + 1 = x) := ⟨_, rfl⟩
      obtain ⟨n2, f2⟩ : ∃ x, Hid (k2 + m.r.length = x) := ⟨_, rfl⟩
      obtain ⟨n3, f3⟩ : ∃ x, Hid (n2 + m.s.length = x) := ⟨_, rfl⟩
      obtain ⟨n4, f4⟩ : ∃ x, Hid (n3 + 1 = x) := ⟨_, rfl⟩
      obtain ⟨n5, f5⟩ : ∃ x, Hid (n4 + m.pr.length = x) := ⟨_, rfl⟩
      obtain ⟨n6, f6⟩ : ∃ x, Hid (n5 + m.ti.length = x) := ⟨_, rfl⟩
      obtain ⟨n7, f7⟩ : ∃ x, Hid (n6 + 1 = x) := ⟨_, rfl⟩
      obtain ⟨n8, f8⟩ : ∃ x, Hid (n7 + 1 = x) := ⟨_, rfl⟩
      obtain ⟨n9, f9⟩ : ∃ x, Hid (n8 + m.bi.length = x) := ⟨_, rfl⟩
      obtain ⟨n10, f10⟩ : ∃ x, Hid (n9 + 1 = x) := ⟨_, rfl⟩
      have qA : Hid (gA k m = n2) := by show _ = _; unfold gA; have := f1.out; have := f1b.out; have := f2.out; omega
      have qB : Hid (gB k m = n3) := by show _ = _; unfold gB; rw [qA.out]; exact f3.out
      have qC : Hid (gC k m = n5) := by show _ = _; unfold gC; rw [qB.out]; have := f4.out; have := f5.out; omega
      have qD : Hid (gD k m = n6) := by show _ = _; unfold gD; rw [qC.out]; exact f6.out
      have qE : Hid (gE k m = n9) := by show _ = _; unfold gE; rw [qD.out]; have := f7.out; have := f8.out; have := f9.out; omega
      rw [qE.out] at eF bE
      rw [show n9 + 1 = n10 from f10.out] at eF
      obtain ⟨n11, qF⟩ : ∃ x, Hid (gF k m = x) := ⟨_, rfl⟩
      rw [qF.out] at eF bF
      obtain ⟨n12, f12⟩ : ∃ x, Hid (n11 + m.pf.length = x) := ⟨_, rfl⟩
      have qG : Hid (gG k m = n12) := by show _ = _; unfold gG; rw [qF.out]; exact f12.out
      have EF := hide eF
      clear eF
      have l9 : n9 ≤ 838861706 * 1000 := by omega
      have o9 : n2 ≤ n9 ∧ n3 ≤ n9 ∧ n4 ≤ n9 ∧ n5 ≤ n9 ∧ n6 ≤ n9 ∧ n7 ≤ n9 ∧ n8 ≤ n9 ∧ k1 ≤ n9 ∧ k2 ≤ n9 := by
        have := f1.out; have := f1b.out; have := f2.out; have := f3.out; have := f4.out; have := f5.out; have := f6.out; have := f7.out; have := f8.out; have := f9.out
        omega
      have l10 : n10 ≤ 838861707 * 1000 := by have := f10.out; omega
      have l11 : n11 ≤ 840910801 * 1000 := by omega
      have e1 : (k : Int) + 1 = (k1 : Int) := by have := f1.out; omega
      have e1b : (k1 : Int) + 1 = (k2 : Int) := by have := f1b.out; omega
      have e4 : (n3 : Int) + 1 = (n4 : Int) := by have := f4.out; omega
      have e7 : (n6 : Int) + 1 = (n7 : Int) := by have := f7.out; omega
      have e8 : (n7 : Int) + 1 = (n8 : Int) := by have := f8.out; omega
      have e10 : (n9 : Int) + 1 = (n10 : Int) := by have := f10.out; omega
      obtain ⟨r3, h3⟩ : ∃ r, r = n9 % 3 := ⟨_, rfl⟩
      have e3 : Int.tmod (n9 : Int) 3 = (r3 : Int) := by rw [Int.tmod_eq_emod_of_nonneg (by omega)]; omega
      have e3' : (n9 : Int) % 3 = (r3 : Int) := by omega
      obtain ⟨b3, hb3⟩ : ∃ b, b = decide (n9 % 3 = 0) := ⟨_, rfl⟩
      have d3 : decide ((r3 : Int) = 0) = b3 := by rw [hb3, h3]; congr 1; simp only [eq_iff_iff]; omega
      have d3' : ((r3 : Int) == 0) = b3 := by rw [← d3]; rfl
      have HB3 := hide hb3
      clear hb3 h3 bE bF
      have gF := hide hf.2
      have FN' := hide fn
      clear fn hf
      have RJ0 : RJ wr g n j (curJ ms es j) [.int .i64 m.k, .int .i64 m.v, .slice p.a2 m.r.length p.c2, .slice p.a3 m.s.length p.c3, .string ⟨⟨m.ho⟩⟩, .slice p.a5 m.pr.length p.c5, .slice p.a6 m.ti.length p.c6, .int .i64 m.ag, .int .i64 m.ea, .slice p.a9 m.bi.length p.c9, .bool m.rs, .slice p.a11 m.ce.length p.c11, .slice p.a12 m.pf.length p.c12] := RJ0
      have S0 := Cg.refl g (F 0) (F 0) wr
      have c0 := RJ0.cell 0 _ rfl
      rw [Nat.add_zero] at c0
      have z0 := RJ0.z (j * 13)
      have R1 : RJ (wr.setCell ⟨g, j * 13, none⟩ (.int .i64 (k : Int))) g n j (curJ ms es j) [.int .i64 (k : Int), .int .i64 m.v, .slice p.a2 m.r.length p.c2, .slice p.a3 m.s.length p.c3, .string ⟨⟨m.ho⟩⟩, .slice p.a5 m.pr.length p.c5, .slice p.a6 m.ti.length p.c6, .int .i64 m.ag, .int .i64 m.ea, .slice p.a9 m.bi.length p.c9, .bool m.rs, .slice p.a11 m.ce.length p.c11, .slice p.a12 m.pf.length p.c12] := RJ0.set0 _
      have O1 : Cg g (F 0) (F 0) wr (wr.setCell ⟨g, j * 13, none⟩ (.int .i64 (k : Int))) := Cg.of_only (Only.setCell _ g _ _)
      have c1 := R1.cell 1 _ rfl
      have z1 := R1.z (j * 13 + 1)
      have R2 : RJ ((wr.setCell ⟨g, j * 13, none⟩ (.int .i64 (k : Int))).setCell ⟨g, j * 13 + 1, none⟩ (.int .i64 (k1 : Int))) g n j (curJ ms es j) [.int .i64 (k : Int), .int .i64 (k1 : Int), .slice p.a2 m.r.length p.c2, .slice p.a3 m.s.length p.c3, .string ⟨⟨m.ho⟩⟩, .slice p.a5 m.pr.length p.c5, .slice p.a6 m.ti.length p.c6, .int .i64 m.ag, .int .i64 m.ea, .slice p.a9 m.bi.length p.c9, .bool m.rs, .slice p.a11 m.ce.length p.c11, .slice p.a12 m.pf.length p.c12] := R1.set 1 (by decide) _
      have O2 : Cg g (F 0) (F 0) (wr.setCell ⟨g, j * 13, none⟩ (.int .i64 (k : Int))) ((wr.setCell ⟨g, j * 13, none⟩ (.int .i64 (k : Int))).setCell ⟨g, j * 13 + 1, none⟩ (.int .i64 (k1 : Int))) := Cg.of_only (Only.setCell _ g _ _)
      have S0' := (S0.mono (lo' := F 0) (hi' := F 0) (Nat.le_refl _) (by omega)).trans ((Cg.of_only (lo := F 0) (hi := F 0) (b := (wr.setCell ⟨g, j * 13, none⟩ (.int .i64 (k : Int)))) (Only.setCell _ g _ _)))
      clear S0
      have S0 := S0'
      clear S0'
      have S0' := (S0.mono (lo' := F 0) (hi' := F 0) (Nat.le_refl _) (by omega)).trans ((Cg.of_only (lo := F 0) (hi := F 0) (b := ((wr.setCell ⟨g, j * 13, none⟩ (.int .i64 (k : Int))).setCell ⟨g, j * 13 + 1, none⟩ (.int .i64 (k1 : Int)))) (Only.setCell _ g _ _)))
      clear S0
      have S0 := S0'
      clear S0'
      have d2 := R2.cell 2 _ rfl
      have M := hide (markB_g ((wr.setCell ⟨g, j * 13, none⟩ (.int .i64 (k : Int))).setCell ⟨g, j * 13 + 1, none⟩ (.int .i64 (k1 : Int))) p.g2 (F 0) (F 1) p.a2 p.c2 m.r k2 (own_ch AC.out.r fun h0 => S0.block _ (AC.out.r.rd.lt h0) (by have := FN'.out.b2 h0; have := gF.out; omega) (.inr (by have := FN'.out.b2 h0; omega))) FN'.out.b2 (by omega) (by omega))
      rw [f2.out] at M
      go_wp2_with fail
      refine M.out.mono ?_
      rintro e w2 ⟨rfl, M2, C2⟩
      have R3 := R2.ch C2 (by have := gF.out; omega)
      have S0' := (S0.mono (lo' := F 0) (hi' := F 1) (Nat.le_refl _) (by omega)).trans (((Cg.of_ch C2).mono (lo' := F 0) (hi' := F 1) (by omega) (Nat.le_refl _)))
      clear S0
      have S0 := S0'
      clear S0'
      have S2 := Cg.refl g (F 1) (F 1) w2
      have H2 := hide M2
      clear M M2 C2 d2
      clear c0 c1 z0 z1 R1 R2 O1 O2 RJ0 e1 e1b
      have d3 := R3.cell 3 _ rfl
      have M := hide (markB_g w2 p.g3 (F 1) (F 2) p.a3 p.c3 m.s n2 (own_ch AC.out.s fun h0 => S0.block _ (AC.out.s.rd.lt h0) (by have := FN'.out.b3 h0; have := gF.out; omega) (.inr (by have := FN'.out.b3 h0; omega))) FN'.out.b3 (by omega) (by omega))
      rw [f3.out] at M
      go_wp2_with fail
      refine M.out.mono ?_
      rintro e w3 ⟨rfl, M3, C3⟩
      have R4 := R3.ch C3 (by have := gF.out; omega)
      have S0' := (S0.mono (lo' := F 0) (hi' := F 2) (Nat.le_refl _) (by omega)).trans (((Cg.of_ch C3).mono (lo' := F 0) (hi' := F 2) (by omega) (Nat.le_refl _)))
      clear S0
      have S0 := S0'
      clear S0'
      have S2' := (S2.mono (lo' := F 1) (hi' := F 2) (Nat.le_refl _) (by omega)).trans (((Cg.of_ch C3).mono (lo' := F 1) (hi' := F 2) (by omega) (Nat.le_refl _)))
      clear S2
      have S2 := S2'
      clear S2'
      have S3 := Cg.refl g (F 2) (F 2) w3
      have H3 := hide M3
      clear M M3 C3 d3
      have MT := hide (markText_is w3 n3 (by omega))
      go_wp2_with fail
      refine MT.out.mono ?_
      rintro e w4 ⟨rfl, m4⟩
      have R5 := R4.of (m4.block g R4.lt)
      have S0' := (S0.mono (lo' := F 0) (hi' := F 2) (Nat.le_refl _) (by omega)).trans ((Cg.of_below (lo := F 0) (hi := F 2) m4))
      clear S0
      have S0 := S0'
      clear S0'
      have S2' := (S2.mono (lo' := F 1) (hi' := F 2) (Nat.le_refl _) (by omega)).trans ((Cg.of_below (lo := F 1) (hi := F 2) m4))
      clear S2
      have S2 := S2'
      clear S2'
      have S3' := (S3.mono (lo' := F 2) (hi' := F 2) (Nat.le_refl _) (by omega)).trans ((Cg.of_below (lo := F 2) (hi := F 2) m4))
      clear S3
      have S3 := S3'
      clear S3'
      clear MT m4
      have c4 := R5.cell 4 _ rfl
      have z4 := R5.z (j * 13 + 4)
      have R6 : RJ (w4.setCell ⟨g, j * 13 + 4, none⟩ (.string ⟨⟨mtF n3⟩⟩)) g n j (curJ ms es j) [.int .i64 (k : Int), .int .i64 (k1 : Int), .slice p.a2 m.r.length p.c2, .slice p.a3 m.s.length p.c3, .string ⟨⟨mtF n3⟩⟩, .slice p.a5 m.pr.length p.c5, .slice p.a6 m.ti.length p.c6, .int .i64 m.ag, .int .i64 m.ea, .slice p.a9 m.bi.length p.c9, .bool m.rs, .slice p.a11 m.ce.length p.c11, .slice p.a12 m.pf.length p.c12] := R5.set 4 (by decide) _
      have O6 : Cg g (F 0) (F 0) w4 (w4.setCell ⟨g, j * 13 + 4, none⟩ (.string ⟨⟨mtF n3⟩⟩)) := Cg.of_only (Only.setCell _ g _ _)
      have S0' := (S0.mono (lo' := F 0) (hi' := F 2) (Nat.le_refl _) (by omega)).trans ((Cg.of_only (lo := F 0) (hi := F 2) (b := (w4.setCell ⟨g, j * 13 + 4, none⟩ (.string ⟨⟨mtF n3⟩⟩))) (Only.setCell _ g _ _)))
      clear S0
      have S0 := S0'
      clear S0'
      have S2' := (S2.mono (lo' := F 1) (hi' := F 2) (Nat.le_refl _) (by omega)).trans ((Cg.of_only (lo := F 1) (hi := F 2) (b := (w4.setCell ⟨g, j * 13 + 4, none⟩ (.string ⟨⟨mtF n3⟩⟩))) (Only.setCell _ g _ _)))
      clear S2
      have S2 := S2'
      clear S2'
      have S3' := (S3.mono (lo' := F 2) (hi' := F 2) (Nat.le_refl _) (by omega)).trans ((Cg.of_only (lo := F 2) (hi := F 2) (b := (w4.setCell ⟨g, j * 13 + 4, none⟩ (.string ⟨⟨mtF n3⟩⟩))) (Only.setCell _ g _ _)))
      clear S3
      have S3 := S3'
      clear S3'
      have d5 := R6.cell 5 _ rfl
      have M := hide (markT_g (w4.setCell ⟨g, j * 13 + 4, none⟩ (.string ⟨⟨mtF n3⟩⟩)) (F 2) p.g5 (F 2) (F 3) p.a5 p.c5 m.pr n4 (fun h0 => rowT_ch (AC.out.pr h0) fun b hb => S0.block b (World.ownsRow.lt (AC.out.pr h0) b hb).2 (by have e := FN'.out.b5 h0; rw [e.1] at hb; have : p.g5 = b := Option.some.inj hb; have := gF.out; omega) (.inr (World.ownsRow.lt (AC.out.pr h0) b hb).1)) FN'.out.b5 (by omega) (by omega))
      rw [f5.out] at M
      go_wp2_with fail
      refine M.out.mono ?_
      rintro e w5 ⟨rfl, M5, C5⟩
      have R7 := R6.ch C5 (by have := gF.out; omega)
      have S0' := (S0.mono (lo' := F 0) (hi' := F 3) (Nat.le_refl _) (by omega)).trans (((Cg.of_ch C5).mono (lo' := F 0) (hi' := F 3) (by omega) (Nat.le_refl _)))
      clear S0
      have S0 := S0'
      clear S0'
      have S2' := (S2.mono (lo' := F 1) (hi' := F 3) (Nat.le_refl _) (by omega)).trans (((Cg.of_ch C5).mono (lo' := F 1) (hi' := F 3) (by omega) (Nat.le_refl _)))
      clear S2
      have S2 := S2'
      clear S2'
      have S3' := (S3.mono (lo' := F 2) (hi' := F 3) (Nat.le_refl _) (by omega)).trans (((Cg.of_ch C5).mono (lo' := F 2) (hi' := F 3) (by omega) (Nat.le_refl _)))
      clear S3
      have S3 := S3'
      clear S3'
      have S5 := Cg.refl g (F 3) (F 3) w5
      have H5 := hide M5
      clear M M5 C5 d5
      have d6 := R7.cell 6 _ rfl
      have M := hide (markB_g w5 p.g6 (F 3) (F 4) p.a6 p.c6 m.ti n5 (own_ch AC.out.ti fun h0 => S0.block _ (AC.out.ti.rd.lt h0) (by have := FN'.out.b6 h0; have := gF.out; omega) (.inr (by have := FN'.out.b6 h0; omega))) FN'.out.b6 (by omega) (by omega))
      rw [f6.out] at M
      go_wp2_with fail
      refine M.out.mono ?_
      rintro e w6 ⟨rfl, M6, C6⟩
      have R8 := R7.ch C6 (by have := gF.out; omega)
      have S0' := (S0.mono (lo' := F 0) (hi' := F 4) (Nat.le_refl _) (by omega)).trans (((Cg.of_ch C6).mono (lo' := F 0) (hi' := F 4) (by omega) (Nat.le_refl _)))
      clear S0
      have S0 := S0'
      clear S0'
      have S2' := (S2.mono (lo' := F 1) (hi' := F 4) (Nat.le_refl _) (by omega)).trans (((Cg.of_ch C6).mono (lo' := F 1) (hi' := F 4) (by omega) (Nat.le_refl _)))
      clear S2
      have S2 := S2'
      clear S2'
      have S3' := (S3.mono (lo' := F 2) (hi' := F 4) (Nat.le_refl _) (by omega)).trans (((Cg.of_ch C6).mono (lo' := F 2) (hi' := F 4) (by omega) (Nat.le_refl _)))
      clear S3
      have S3 := S3'
      clear S3'
      have S5' := (S5.mono (lo' := F 3) (hi' := F 4) (Nat.le_refl _) (by omega)).trans (((Cg.of_ch C6).mono (lo' := F 3) (hi' := F 4) (by omega) (Nat.le_refl _)))
      clear S5
      have S5 := S5'
      clear S5'
      have S6 := Cg.refl g (F 4) (F 4) w6
      have H6 := hide M6
      clear M M6 C6 d6
      clear c4 z4 e4
      have c7 := R8.cell 7 _ rfl
      have z7 := R8.z (j * 13 + 7)
      have R9 : RJ (w6.setCell ⟨g, j * 13 + 7, none⟩ (.int .i64 (n6 : Int))) g n j (curJ ms es j) [.int .i64 (k : Int), .int .i64 (k1 : Int), .slice p.a2 m.r.length p.c2, .slice p.a3 m.s.length p.c3, .string ⟨⟨mtF n3⟩⟩, .slice p.a5 m.pr.length p.c5, .slice p.a6 m.ti.length p.c6, .int .i64 (n6 : Int), .int .i64 m.ea, .slice p.a9 m.bi.length p.c9, .bool m.rs, .slice p.a11 m.ce.length p.c11, .slice p.a12 m.pf.length p.c12] := R8.set 7 (by decide) _
      have O9 : Cg g (F 0) (F 0) w6 (w6.setCell ⟨g, j * 13 + 7, none⟩ (.int .i64 (n6 : Int))) := Cg.of_only (Only.setCell _ g _ _)
      have c8 := R9.cell 8 _ rfl
      have z8 := R9.z (j * 13 + 8)
      have R10 : RJ ((w6.setCell ⟨g, j * 13 + 7, none⟩ (.int .i64 (n6 : Int))).setCell ⟨g, j * 13 + 8, none⟩ (.int .i64 (n7 : Int))) g n j (curJ ms es j) [.int .i64 (k : Int), .int .i64 (k1 : Int), .slice p.a2 m.r.length p.c2, .slice p.a3 m.s.length p.c3, .string ⟨⟨mtF n3⟩⟩, .slice p.a5 m.pr.length p.c5, .slice p.a6 m.ti.length p.c6, .int .i64 (n6 : Int), .int .i64 (n7 : Int), .slice p.a9 m.bi.length p.c9, .bool m.rs, .slice p.a11 m.ce.length p.c11, .slice p.a12 m.pf.length p.c12] := R9.set 8 (by decide) _
      have O10 : Cg g (F 0) (F 0) (w6.setCell ⟨g, j * 13 + 7, none⟩ (.int .i64 (n6 : Int))) ((w6.setCell ⟨g, j * 13 + 7, none⟩ (.int .i64 (n6 : Int))).setCell ⟨g, j * 13 + 8, none⟩ (.int .i64 (n7 : Int))) := Cg.of_only (Only.setCell _ g _ _)
      have S0' := (S0.mono (lo' := F 0) (hi' := F 4) (Nat.le_refl _) (by omega)).trans ((Cg.of_only (lo := F 0) (hi := F 4) (b := (w6.setCell ⟨g, j * 13 + 7, none⟩ (.int .i64 (n6 : Int)))) (Only.setCell _ g _ _)))
      clear S0
      have S0 := S0'
      clear S0'
      have S2' := (S2.mono (lo' := F 1) (hi' := F 4) (Nat.le_refl _) (by omega)).trans ((Cg.of_only (lo := F 1) (hi := F 4) (b := (w6.setCell ⟨g, j * 13 + 7, none⟩ (.int .i64 (n6 : Int)))) (Only.setCell _ g _ _)))
      clear S2
      have S2 := S2'
      clear S2'
      have S3' := (S3.mono (lo' := F 2) (hi' := F 4) (Nat.le_refl _) (by omega)).trans ((Cg.of_only (lo := F 2) (hi := F 4) (b := (w6.setCell ⟨g, j * 13 + 7, none⟩ (.int .i64 (n6 : Int)))) (Only.setCell _ g _ _)))
      clear S3
      have S3 := S3'
      clear S3'
      have S5' := (S5.mono (lo' := F 3) (hi' := F 4) (Nat.le_refl _) (by omega)).trans ((Cg.of_only (lo := F 3) (hi := F 4) (b := (w6.setCell ⟨g, j * 13 + 7, none⟩ (.int .i64 (n6 : Int)))) (Only.setCell _ g _ _)))
      clear S5
      have S5 := S5'
      clear S5'
      have S6' := (S6.mono (lo' := F 4) (hi' := F 4) (Nat.le_refl _) (by omega)).trans ((Cg.of_only (lo := F 4) (hi := F 4) (b := (w6.setCell ⟨g, j * 13 + 7, none⟩ (.int .i64 (n6 : Int)))) (Only.setCell _ g _ _)))
      clear S6
      have S6 := S6'
      clear S6'
      have S0' := (S0.mono (lo' := F 0) (hi' := F 4) (Nat.le_refl _) (by omega)).trans ((Cg.of_only (lo := F 0) (hi := F 4) (b := ((w6.setCell ⟨g, j * 13 + 7, none⟩ (.int .i64 (n6 : Int))).setCell ⟨g, j * 13 + 8, none⟩ (.int .i64 (n7 : Int)))) (Only.setCell _ g _ _)))
      clear S0
      have S0 := S0'
      clear S0'
      have S2' := (S2.mono (lo' := F 1) (hi' := F 4) (Nat.le_refl _) (by omega)).trans ((Cg.of_only (lo := F 1) (hi := F 4) (b := ((w6.setCell ⟨g, j * 13 + 7, none⟩ (.int .i64 (n6 : Int))).setCell ⟨g, j * 13 + 8, none⟩ (.int .i64 (n7 : Int)))) (Only.setCell _ g _ _)))
      clear S2
      have S2 := S2'
      clear S2'
      have S3' := (S3.mono (lo' := F 2) (hi' := F 4) (Nat.le_refl _) (by omega)).trans ((Cg.of_only (lo := F 2) (hi := F 4) (b := ((w6.setCell ⟨g, j * 13 + 7, none⟩ (.int .i64 (n6 : Int))).setCell ⟨g, j * 13 + 8, none⟩ (.int .i64 (n7 : Int)))) (Only.setCell _ g _ _)))
      clear S3
      have S3 := S3'
      clear S3'
      have S5' := (S5.mono (lo' := F 3) (hi' := F 4) (Nat.le_refl _) (by omega)).trans ((Cg.of_only (lo := F 3) (hi := F 4) (b := ((w6.setCell ⟨g, j * 13 + 7, none⟩ (.int .i64 (n6 : Int))).setCell ⟨g, j * 13 + 8, none⟩ (.int .i64 (n7 : Int)))) (Only.setCell _ g _ _)))
      clear S5
      have S5 := S5'
      clear S5'
      have S6' := (S6.mono (lo' := F 4) (hi' := F 4) (Nat.le_refl _) (by omega)).trans ((Cg.of_only (lo := F 4) (hi := F 4) (b := ((w6.setCell ⟨g, j * 13 + 7, none⟩ (.int .i64 (n6 : Int))).setCell ⟨g, j * 13 + 8, none⟩ (.int .i64 (n7 : Int)))) (Only.setCell _ g _ _)))
      clear S6
      have S6 := S6'
      clear S6'
      have d9 := R10.cell 9 _ rfl
      have M := hide (markB_g ((w6.setCell ⟨g, j * 13 + 7, none⟩ (.int .i64 (n6 : Int))).setCell ⟨g, j * 13 + 8, none⟩ (.int .i64 (n7 : Int))) p.g9 (F 4) (F 5) p.a9 p.c9 m.bi n8 (own_ch AC.out.bi fun h0 => S0.block _ (AC.out.bi.rd.lt h0) (by have := FN'.out.b9 h0; have := gF.out; omega) (.inr (by have := FN'.out.b9 h0; omega))) FN'.out.b9 (by omega) (by omega))
      rw [f9.out] at M
      go_wp2_with fail
      refine M.out.mono ?_
      rintro e w9 ⟨rfl, M9, C9⟩
      have R11 := R10.ch C9 (by have := gF.out; omega)
      have S0' := (S0.mono (lo' := F 0) (hi' := F 5) (Nat.le_refl _) (by omega)).trans (((Cg.of_ch C9).mono (lo' := F 0) (hi' := F 5) (by omega) (Nat.le_refl _)))
      clear S0
      have S0 := S0'
      clear S0'
      have S2' := (S2.mono (lo' := F 1) (hi' := F 5) (Nat.le_refl _) (by omega)).trans (((Cg.of_ch C9).mono (lo' := F 1) (hi' := F 5) (by omega) (Nat.le_refl _)))
      clear S2
      have S2 := S2'
      clear S2'
      have S3' := (S3.mono (lo' := F 2) (hi' := F 5) (Nat.le_refl _) (by omega)).trans (((Cg.of_ch C9).mono (lo' := F 2) (hi' := F 5) (by omega) (Nat.le_refl _)))
      clear S3
      have S3 := S3'
      clear S3'
      have S5' := (S5.mono (lo' := F 3) (hi' := F 5) (Nat.le_refl _) (by omega)).trans (((Cg.of_ch C9).mono (lo' := F 3) (hi' := F 5) (by omega) (Nat.le_refl _)))
      clear S5
      have S5 := S5'
      clear S5'
      have S6' := (S6.mono (lo' := F 4) (hi' := F 5) (Nat.le_refl _) (by omega)).trans (((Cg.of_ch C9).mono (lo' := F 4) (hi' := F 5) (by omega) (Nat.le_refl _)))
      clear S6
      have S6 := S6'
      clear S6'
      have S9 := Cg.refl g (F 5) (F 5) w9
      have H9 := hide M9
      clear M M9 C9 d9
      clear c7 c8 z7 z8 e7 e8
      have c10 := R11.cell 10 _ rfl
      have z10 := R11.z (j * 13 + 10)
      have R12 : RJ (w9.setCell ⟨g, j * 13 + 10, none⟩ (.bool b3)) g n j (curJ ms es j) [.int .i64 (k : Int), .int .i64 (k1 : Int), .slice p.a2 m.r.length p.c2, .slice p.a3 m.s.length p.c3, .string ⟨⟨mtF n3⟩⟩, .slice p.a5 m.pr.length p.c5, .slice p.a6 m.ti.length p.c6, .int .i64 (n6 : Int), .int .i64 (n7 : Int), .slice p.a9 m.bi.length p.c9, .bool b3, .slice p.a11 m.ce.length p.c11, .slice p.a12 m.pf.length p.c12] := R11.set 10 (by decide) _
      have O12 : Cg g (F 0) (F 0) w9 (w9.setCell ⟨g, j * 13 + 10, none⟩ (.bool b3)) := Cg.of_only (Only.setCell _ g _ _)
      have S0' := (S0.mono (lo' := F 0) (hi' := F 5) (Nat.le_refl _) (by omega)).trans ((Cg.of_only (lo := F 0) (hi := F 5) (b := (w9.setCell ⟨g, j * 13 + 10, none⟩ (.bool b3))) (Only.setCell _ g _ _)))
      clear S0
      have S0 := S0'
      clear S0'
      have S2' := (S2.mono (lo' := F 1) (hi' := F 5) (Nat.le_refl _) (by omega)).trans ((Cg.of_only (lo := F 1) (hi := F 5) (b := (w9.setCell ⟨g, j * 13 + 10, none⟩ (.bool b3))) (Only.setCell _ g _ _)))
      clear S2
      have S2 := S2'
      clear S2'
      have S3' := (S3.mono (lo' := F 2) (hi' := F 5) (Nat.le_refl _) (by omega)).trans ((Cg.of_only (lo := F 2) (hi := F 5) (b := (w9.setCell ⟨g, j * 13 + 10, none⟩ (.bool b3))) (Only.setCell _ g _ _)))
      clear S3
      have S3 := S3'
      clear S3'
      have S5' := (S5.mono (lo' := F 3) (hi' := F 5) (Nat.le_refl _) (by omega)).trans ((Cg.of_only (lo := F 3) (hi := F 5) (b := (w9.setCell ⟨g, j * 13 + 10, none⟩ (.bool b3))) (Only.setCell _ g _ _)))
      clear S5
      have S5 := S5'
      clear S5'
      have S6' := (S6.mono (lo' := F 4) (hi' := F 5) (Nat.le_refl _) (by omega)).trans ((Cg.of_only (lo := F 4) (hi := F 5) (b := (w9.setCell ⟨g, j * 13 + 10, none⟩ (.bool b3))) (Only.setCell _ g _ _)))
      clear S6
      have S6 := S6'
      clear S6'
      have S9' := (S9.mono (lo' := F 5) (hi' := F 5) (Nat.le_refl _) (by omega)).trans ((Cg.of_only (lo := F 5) (hi := F 5) (b := (w9.setCell ⟨g, j * 13 + 10, none⟩ (.bool b3))) (Only.setCell _ g _ _)))
      clear S9
      have S9 := S9'
      clear S9'
      have d11 := R12.cell 11 _ rfl
      have M := hide (markL_g (w9.setCell ⟨g, j * 13 + 10, none⟩ (.bool b3)) (F 5) (F 5) (F 6) p.a11 p.c11 m.ce bs n10 (fun h0 => (AC.out.ce h0).ofS (fun b hb => S0.block b (World.ownsRow.lt (AC.out.ce h0).o b hb).2 (by have e := FN'.out.b11 h0; rw [e.1] at hb; have : p.g11 = b := Option.some.inj hb; have := gF.out; omega) (.inr (World.ownsRow.lt (AC.out.ce h0).o b hb).1)) (fun i hi h1 => S0.block _ ((AC.out.ce h0).lt hi h1) (by have := FN'.out.bl i hi h1; have := gF.out; omega) (.inr (FN'.out.bl i hi h1).1))) FN'.out.bl lc lz.out (by omega))
      rw [EF.out] at M
      go_wp2_with fail
      refine M.out.mono ?_
      rintro e w11 ⟨rfl, M11, C11⟩
      have R13 := R12.ch C11 (by have := gF.out; omega)
      have S0' := (S0.mono (lo' := F 0) (hi' := F 6) (Nat.le_refl _) (by omega)).trans (((Cg.of_ch C11).mono (lo' := F 0) (hi' := F 6) (by omega) (Nat.le_refl _)))
      clear S0
      have S0 := S0'
      clear S0'
      have S2' := (S2.mono (lo' := F 1) (hi' := F 6) (Nat.le_refl _) (by omega)).trans (((Cg.of_ch C11).mono (lo' := F 1) (hi' := F 6) (by omega) (Nat.le_refl _)))
      clear S2
      have S2 := S2'
      clear S2'
      have S3' := (S3.mono (lo' := F 2) (hi' := F 6) (Nat.le_refl _) (by omega)).trans (((Cg.of_ch C11).mono (lo' := F 2) (hi' := F 6) (by omega) (Nat.le_refl _)))
      clear S3
      have S3 := S3'
      clear S3'
      have S5' := (S5.mono (lo' := F 3) (hi' := F 6) (Nat.le_refl _) (by omega)).trans (((Cg.of_ch C11).mono (lo' := F 3) (hi' := F 6) (by omega) (Nat.le_refl _)))
      clear S5
      have S5 := S5'
      clear S5'
      have S6' := (S6.mono (lo' := F 4) (hi' := F 6) (Nat.le_refl _) (by omega)).trans (((Cg.of_ch C11).mono (lo' := F 4) (hi' := F 6) (by omega) (Nat.le_refl _)))
      clear S6
      have S6 := S6'
      clear S6'
      have S9' := (S9.mono (lo' := F 5) (hi' := F 6) (Nat.le_refl _) (by omega)).trans (((Cg.of_ch C11).mono (lo' := F 5) (hi' := F 6) (by omega) (Nat.le_refl _)))
      clear S9
      have S9 := S9'
      clear S9'
      have S11 := Cg.refl g (F 6) (F 6) w11
      have H11 := hide M11
      clear M M11 C11 d11
      clear c10 z10 e10 e3 e3' d3 d3'
      have d12 := R13.cell 12 _ rfl
      have M := hide (markB_g w11 p.g12 (F 6) (F 7) p.a12 p.c12 m.pf n11 (own_ch AC.out.pf fun h0 => S0.block _ (AC.out.pf.rd.lt h0) (by have := FN'.out.b12 h0; have := gF.out; omega) (.inr (by have := FN'.out.b12 h0; omega))) FN'.out.b12 (by omega) (by omega))
      rw [f12.out] at M
      go_wp2_with fail
      refine M.out.mono ?_
      rintro e w12 ⟨rfl, M12, C12⟩
      have R14 := R13.ch C12 (by have := gF.out; omega)
      have S0' := (S0.mono (lo' := F 0) (hi' := F 7) (Nat.le_refl _) (by omega)).trans (((Cg.of_ch C12).mono (lo' := F 0) (hi' := F 7) (by omega) (Nat.le_refl _)))
      clear S0
      have S0 := S0'
      clear S0'
      have S2' := (S2.mono (lo' := F 1) (hi' := F 7) (Nat.le_refl _) (by omega)).trans (((Cg.of_ch C12).mono (lo' := F 1) (hi' := F 7) (by omega) (Nat.le_refl _)))
      clear S2
      have S2 := S2'
      clear S2'
      have S3' := (S3.mono (lo' := F 2) (hi' := F 7) (Nat.le_refl _) (by omega)).trans (((Cg.of_ch C12).mono (lo' := F 2) (hi' := F 7) (by omega) (Nat.le_refl _)))
      clear S3
      have S3 := S3'
      clear S3'
      have S5' := (S5.mono (lo' := F 3) (hi' := F 7) (Nat.le_refl _) (by omega)).trans (((Cg.of_ch C12).mono (lo' := F 3) (hi' := F 7) (by omega) (Nat.le_refl _)))
      clear S5
      have S5 := S5'
      clear S5'
      have S6' := (S6.mono (lo' := F 4) (hi' := F 7) (Nat.le_refl _) (by omega)).trans (((Cg.of_ch C12).mono (lo' := F 4) (hi' := F 7) (by omega) (Nat.le_refl _)))
      clear S6
      have S6 := S6'
      clear S6'
      have S9' := (S9.mono (lo' := F 5) (hi' := F 7) (Nat.le_refl _) (by omega)).trans (((Cg.of_ch C12).mono (lo' := F 5) (hi' := F 7) (by omega) (Nat.le_refl _)))
      clear S9
      have S9 := S9'
      clear S9'
      have S11' := (S11.mono (lo' := F 6) (hi' := F 7) (Nat.le_refl _) (by omega)).trans (((Cg.of_ch C12).mono (lo' := F 6) (hi' := F 7) (by omega) (Nat.le_refl _)))
      clear S11
      have S11 := S11'
      clear S11'
      have S12 := Cg.refl g (F 7) (F 7) w12
      have H12 := hide M12
      clear M M12 C12 d12
      have LL : Hid ([.int .i64 (k : Int), .int .i64 (k1 : Int), .slice p.a2 m.r.length p.c2, .slice p.a3 m.s.length p.c3, .string ⟨⟨mtF n3⟩⟩, .slice p.a5 m.pr.length p.c5, .slice p.a6 m.ti.length p.c6, .int .i64 (n6 : Int), .int .i64 (n7 : Int), .slice p.a9 m.bi.length p.c9, .bool b3, .slice p.a11 m.ce.length p.c11, .slice p.a12 m.pf.length p.c12] = mkV p m k) := by
        show _ = mkV p m k
        unfold mkV
        rw [qB.out, qD.out, qE.out, HB3.out, show k + 1 = k1 from f1.out, show n6 + 1 = n7 from f7.out]
      have RF : Hid (∀ i, i < n → w12.rangeAt g (i * 13) (curJ ms es (j + 1) i)) := fun i hi => by
        by_cases e : i = j
        · subst e
          rw [CE.out, ← LL.out]
          exact R14.a
        · rw [curJ_ne ms es j i e]
          exact R14.o i hi e
      have ZF : Hid (∀ o, w12.frozen? ⟨g, o, none⟩ = false) := R14.z
      have GF : Hid (g < w12.heap.size) := R14.lt
      have MK : Hid (MkG w12 p m bs k) := by
        show MkG _ _ _ _ _
        refine ⟨?_, ?_, ?_, ?_, ?_, ?_, ?_⟩
        · rw [show k + 2 = k2 by have := f1.out; have := f1b.out; omega]
          exact rd_ch H2.out fun h0 => S2.block _ (H2.out.lt h0) (by have := FN'.out.b2 (by rw [marks_len] at h0; exact h0); have := gF.out; omega) (.inl (by have := FN'.out.b2 (by rw [marks_len] at h0; exact h0); omega))
        · rw [qA.out]; exact rd_ch H3.out fun h0 => S3.block _ (H3.out.lt h0) (by have := FN'.out.b3 (by rw [marks_len] at h0; exact h0); have := gF.out; omega) (.inl (by have := FN'.out.b3 (by rw [marks_len] at h0; exact h0); omega))
        · rw [qB.out, show n3 + 1 = n4 from f4.out]
          exact rdT_ch H5.out fun h0 => S5.block _ (by obtain ⟨o, ea, hc⟩ := H5.out h0; exact block_lt_of_cell (hc 0 h0)) (by have := FN'.out.b5 (by rw [mkT_len] at h0; exact h0); have := gF.out; omega) (.inl (by have := FN'.out.b5 (by rw [mkT_len] at h0; exact h0); omega))
        · rw [qC.out]; exact rd_ch H6.out fun h0 => S6.block _ (H6.out.lt h0) (by have := FN'.out.b6 (by rw [marks_len] at h0; exact h0); have := gF.out; omega) (.inl (by have := FN'.out.b6 (by rw [marks_len] at h0; exact h0); omega))
        · rw [qD.out, show n6 + 2 = n8 by have := f7.out; have := f8.out; omega]
          exact rd_ch H9.out fun h0 => S9.block _ (H9.out.lt h0) (by have := FN'.out.b9 (by rw [marks_len] at h0; exact h0); have := gF.out; omega) (.inl (by have := FN'.out.b9 (by rw [marks_len] at h0; exact h0); omega))
        · rw [qE.out, show n9 + 1 = n10 from f10.out]
          refine H11.out.of (fun g' c' e' h0 => ?_) (fun i hi h1 => ?_)
          · have b := FN'.out.b11 h0
            have P := H11.out g' c' e' 0 h0
            have lt := block_lt_of_cell P.1
            rw [b.1] at e'
            injection e' with e1
            injection e1 with e1
            injection e1 with e1
            exact S11.block _ lt (by have := gF.out; omega) (.inl (by omega))
          · have b := FN'.out.bl i hi h1
            have b0 := FN'.out.b11 (by omega)
            have P := H11.out p.g11 p.c11 (by rw [b0.1]) i hi
            exact S11.block _ (P.2.rd.lt (by rw [marks_len]; exact h1)) (by have := gF.out; omega) (.inl (by omega))
        · rw [qF.out]; exact H12.out
      have MF : Hid (∀ i, i < j + 1 → MkG w12 (es.getD i el0).p (ms.getD i msg0) (es.getD i el0).bs (kS ms i)) := fun i hi => by
        by_cases e : i = j
        · subst e
          rw [HM.out, HP.out, HBS.out, ← HK.out]
          exact MK.out
        · have hi' : i < ms.length := by omega
          refine (hM.out i (by omega)).of (FN.out i hi') fun b h1 h2 => ?_
          have d := HD.out i j (by omega) hlt'
          rw [HFF.out] at d
          by_cases hb : b < wr.heap.size
          · exact S0.block b hb (by have := (HF.out i hi').2; omega) (.inl (by omega))
          · exact absurd h2 (by have := HT.out i hi'; have := hC.out.size; omega)
      have AF : Hid (∀ i, j + 1 ≤ i → i < n → AnsC w12 (es.getD i el0).F (es.getD i el0).p (ms.getD i msg0) (es.getD i el0).bs) := fun i h1 h2 => by
        have hi' : i < ms.length := by rw [← HN.out]; exact h2
        refine (hA.out i (by omega) h2).of fun b hb h3 h4 => ?_
        have d := HD.out j i (by omega) hi'
        rw [HFF.out] at d
        exact S0.block b hb (by have := (HF.out i hi').2; omega) (.inr (by omega))
      have CF : Hid (Ch B H w w12) := by
        show Ch _ _ _ _
        have b0 := B0.out
        have hf := (HF.out j hlt').1
        have hh := HH.out j hlt'
        rw [HFF.out] at hf hh
        exact hC.out.trans ⟨S0.os, S0.tape, S0.output, S0.size, fun b hb h1 => S0.block b hb (by omega) (by omega)⟩
      have KF : Hid (kS ms (j + 1) = n12) := by show _ = _; rw [KN.out, qG.out]
      clear S0 S2 S3 S5 S6 S9 S11 S12 H2 H3 H5 H6 H9 H11 H12 R14
      go_wp2
      go_roundw
      case rel => exact ⟨j + 1, by omega, by go_num, by rw [KF.out], RF, ZF, MF, AF, GF, CF⟩
      case measure => simp [intOf]; omega
    · obtain rfl : j = n := by omega
      have RES : Hid (MkR wr (.slice (some ⟨g, 0, none⟩) j c) ms es) := fun g' c' e h0 => by
        injection e with e1
        injection e1 with e1
        injection e1 with e1
        subst e1
        refine ⟨hG.out, fun i hi => ?_, fun i hi => hM.out i (by rw [HN.out]; exact hi)⟩
        have := hR.out i (by rw [HN.out]; exact hi)
        unfold curJ at this
        rw [if_pos (by rw [HN.out]; exact hi)] at this
        exact this
      have RE := hide hC.out
      clear hR hZ hM hA hG hC R0 A0 Z0 FN HF HD HT HH SM KB
      go_wp2
      go_ret
      exact ⟨rfl, RES.out, RE.out⟩
end Go.Proofs.YtdnkgmlidhepbaaGreat
