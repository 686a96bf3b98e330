import Derived.Test.YtdnkgmlidhepbaaGreatGC21
namespace Go.Proofs.YtdnkgmlidhepbaaGreat
open Go Go.RowKit
def cHello : MQ → Msg → List Value := fun p m => [.int .i64 m.v, .slice p.a2 m.r.length p.c2, .slice p.a3 m.s.length p.c3, .string ⟨⟨m.ho⟩⟩, .slice p.a5 m.pr.length p.c5, .slice p.a6 m.ti.length p.c6, .int .i64 m.ag, .int .i64 m.ea, .slice p.a9 m.bi.length p.c9]
def nHello : MQ → MQ := fun p => { mq0 with a2 := p.a2, c2 := p.c2, g2 := p.g2, a3 := p.a3, c3 := p.c3, g3 := p.g3, a5 := p.a5, c5 := p.c5, g5 := p.g5, a6 := p.a6, c6 := p.c6, g6 := p.g6, a9 := p.a9, c9 := p.c9, g9 := p.g9 }
theorem mfHello (xs : List Int) : mfF (rdHello xs) = heF (rdHello xs).v (rdHello xs).r.length (rdHello xs).s.length (rdHello xs).ho (rdHello xs).pr (rdHello xs).ti.length (rdHello xs).bi.length (rdHello xs).ag (rdHello xs).ea := by unfold mfF; simp [kfF, rdHello, helloM, msg0, sameM]
set_option maxRecDepth 100000 in
set_option maxHeartbeats 1000000 in
theorem rwHello_any (w : World) (q g : Nat) (a : Option Addr) (c : Nat) (xs : List Int) (hq : RwC w q [.int .i64 0, .slice none 0 0, .slice none 0 0, .string ⟨#[]⟩, .slice none 0 0, .slice none 0 0, .int .i64 0, .int .i64 0, .slice none 0 0] 74) (hr : Rd w g a .u8 xs) (hb : Byt xs) (hgq : 0 < xs.length → g ≠ q) (hc0 : a = none → c = 0) (hc : xs.length ≤ c) (hn : xs.length ≤ 1048576) :
    Calls Tryz.prog 54 #[.iface 70 (.pointer (some ⟨q, 0, none⟩)), .slice a xs.length c] w fun e w' => e = .returned (.bool (decide (mfF (rdHello xs) = 0 ∧ bodF (rdHello xs) = xs))) ∧ (decide (mfF (rdHello xs) = 0 ∧ bodF (rdHello xs) = xs) = true → RK cHello nHello 74 w.heap.size q (rdHello xs) w') ∧ Tch [q] w w' := by
  haveI hD : Decidable (HeG xs) := heD xs
  have hfit : bodF (rdM 1 xs) = xs → HeG xs := fun h => fit_rd (k := 1) (by decide) h
  have eB := rwB_is (k := 1) (xs := xs) (fits := HeG xs) hfit
  have isM : IsM (rdHello xs) := isM_rd hb 1
  have hql := hq.lt
  rw [show rdM 1 xs = rdHello xs from rfl] at eB
  rw [← eB]
  refine readWhole_core w q g a c xs (bodF (rdHello xs)) (mfF (rdHello xs)) (HeG xs) 70 74 [.int .i64 0, .slice none 0 0, .slice none 0 0, .string ⟨#[]⟩, .slice none 0 0, .slice none 0 0, .int .i64 0, .int .i64 0, .slice none 0 0] 89 88 87 (RK cHello nHello 74 w.heap.size q (rdHello xs)) hq hr hb (byt_rd hb 1) hgq (fun _ _ => by kernel_rfl) (fun _ _ => by kernel_rfl) (fun _ _ => by kernel_rfl) (fun _ _ => by kernel_rfl) (fun _ _ => by kernel_rfl) (fun _ _ => by kernel_rfl) ?_ ?_ ?_ (fun W W' h n => h.up n) (fun W W' h O => h.onl (by omega) O)
  · intro W p hQ hC hqp hpl hR hgp hwp
    refine (helRead_any W q p g a c xs 74 hQ hqp hC hpl hR hb hgp hgq hc0 hc hn).mono ?_
    rintro e W' ⟨⟨hfits, rfl, G1, G2, rv, G5, x6, x7, x8, Q, B1, l1, B2, l2, o12, ⟨F1, g2F, F5, RT, rvG⟩, B5, l5, hcs⟩ | ⟨hbad, hpan⟩, K⟩
    rotate_left
    · exact ⟨.inr ⟨hbad, hpan⟩, K⟩
    have hql2 := hQ.lt
    have sK : W.heap.size ≤ W'.heap.size := K.size
    obtain ⟨ra, rl, rc, hrv⟩ : ∃ ra rl rc, rv = .slice ra rl rc := by
      rcases RT.2 with ⟨h', _⟩ | ⟨g', cap, cur, h', _⟩
      · exact ⟨_, _, _, h'⟩
      · exact ⟨_, _, _, h'⟩
    subst hrv
    obtain ⟨hl, hcc, hzz, -⟩ := RowT.rdT RT
    subst hl
    rcases hcs with ⟨hN, rfl, rfl, rfl⟩ | ⟨hN0, rfl, rfl, G8, rfl, B8, o58⟩
    · have hbi : (rdHello xs).bi = [] := by show (if hpN xs = 0 then [] else _) = _; rw [if_pos hN]
      refine ⟨.inl ⟨hfits, rfl, ⟨some ⟨G1, 0, none⟩, 32, G1, some ⟨G2, 0, none⟩, 32, G2, ra, rc, adB ra, some ⟨G5, 0, none⟩, hpN xs, G5, none, 0, 0, none, 0, 0, none, 0, 0, []⟩, [], fnF W.heap.size G2 F1 G5 (G5 + 1) (G5 + 1) (G5 + 1) (G5 + 1), (show w.heap.size < W.heap.size by omega), (show q < W.heap.size by omega), ?_, ?_, rfl⟩, K⟩
      · show RwC W' q [.int .i64 (beN xs 0 1), .slice (some ⟨G1, 0, none⟩) (tkB xs 1 32).length 32, .slice (some ⟨G2, 0, none⟩) (tkB xs 33 32).length 32, .string ⟨⟨txB (tkB xs 66 (beN xs 65 1).toNat)⟩⟩, .slice ra (txT xs (hpA xs + 1) (xs.getD (hpA xs) 0).toNat).length rc, .slice (some ⟨G5, 0, none⟩) (tkB xs (hpB xs + 2) (hpN xs)).length (hpN xs), .int .i64 (if hpN xs = 0 then 0 else beN xs (hpC xs) 4), .int .i64 (if hpN xs = 0 then 0 else beN xs (hpC xs + 4) 1), .slice (none) (if hpN xs = 0 then [] else tkB xs (hpC xs + 5) 32 : List Int).length 0] 74
        rw [tkB_len, tkB_len, tkB_len, if_pos hN, if_pos hN, if_pos hN]
        exact Q
      · exact ⟨B1.own0, B2.own0, RT, B5.own0, (fun h0 => absurd h0 (by show ¬ 0 < (if hpN xs = 0 then [] else tkB xs (hpC xs + 5) 32 : List Int).length; rw [if_pos hN]; simp)), BRow.nil _ _, (fun h => absurd h (by simp [rdHello])), (fun _ => ⟨(by simp only [fnF] <;> omega), (by simp only [fnF] <;> omega)⟩), (fun _ => ⟨(by simp only [fnF] <;> omega), (by simp only [fnF] <;> omega)⟩), (fun h0 => ⟨(rowT_place RT h0).1, rvG _ (rowT_place RT h0).2.2.1⟩), (fun _ => ⟨(by simp only [fnF] <;> omega), (by simp only [fnF] <;> omega)⟩), (fun h0 => absurd h0 (by show ¬ 0 < (if hpN xs = 0 then [] else tkB xs (hpC xs + 5) 32 : List Int).length; rw [if_pos hN]; simp)), (fun h => absurd h (by simp [rdHello])), (fun i h => absurd h (by simp [rdHello])), (fun h => absurd h (by simp [rdHello])), ⟨(by simp only [fnF] <;> omega), (by simp only [fnF] <;> omega), (by simp only [fnF] <;> omega), (by simp only [fnF] <;> omega), (by simp only [fnF] <;> omega), (by simp only [fnF] <;> omega), (by simp only [fnF] <;> omega)⟩, ⟨(fun h => by cases h), (fun h => by cases h), (fun h => by cases h), (fun _ => rfl), (fun _ => rfl), fun i hi => absurd hi (by simp [rdHello])⟩, hcc, rfl⟩
    · have hN : ¬ hpN xs = 0 := by omega
      refine ⟨.inl ⟨hfits, rfl, ⟨some ⟨G1, 0, none⟩, 32, G1, some ⟨G2, 0, none⟩, 32, G2, ra, rc, adB ra, some ⟨G5, 0, none⟩, hpN xs, G5, some ⟨G8, 0, none⟩, 32, G8, none, 0, 0, none, 0, 0, []⟩, [], fnF W.heap.size G2 F1 G5 (G5 + 1) (G8 + 1) (G8 + 1) (G8 + 1), (show w.heap.size < W.heap.size by omega), (show q < W.heap.size by omega), ?_, ?_, rfl⟩, K⟩
      · show RwC W' q [.int .i64 (beN xs 0 1), .slice (some ⟨G1, 0, none⟩) (tkB xs 1 32).length 32, .slice (some ⟨G2, 0, none⟩) (tkB xs 33 32).length 32, .string ⟨⟨txB (tkB xs 66 (beN xs 65 1).toNat)⟩⟩, .slice ra (txT xs (hpA xs + 1) (xs.getD (hpA xs) 0).toNat).length rc, .slice (some ⟨G5, 0, none⟩) (tkB xs (hpB xs + 2) (hpN xs)).length (hpN xs), .int .i64 (if hpN xs = 0 then 0 else beN xs (hpC xs) 4), .int .i64 (if hpN xs = 0 then 0 else beN xs (hpC xs + 4) 1), .slice (some ⟨G8, 0, none⟩) (if hpN xs = 0 then [] else tkB xs (hpC xs + 5) 32 : List Int).length 32] 74
        rw [tkB_len, tkB_len, tkB_len, if_neg hN, if_neg hN, if_neg hN, tkB_len]
        exact Q
      · exact ⟨B1.own0, B2.own0, RT, B5.own0, (by show Own _ _ _ _ (if hpN xs = 0 then [] else tkB xs (hpC xs + 5) 32); rw [if_neg hN]; exact B8.own0), BRow.nil _ _, (fun h => absurd h (by simp [rdHello])), (fun _ => ⟨(by simp only [fnF] <;> omega), (by simp only [fnF] <;> omega)⟩), (fun _ => ⟨(by simp only [fnF] <;> omega), (by simp only [fnF] <;> omega)⟩), (fun h0 => ⟨(rowT_place RT h0).1, rvG _ (rowT_place RT h0).2.2.1⟩), (fun _ => ⟨(by simp only [fnF] <;> omega), (by simp only [fnF] <;> omega)⟩), (fun _ => ⟨(by simp only [fnF] <;> omega), (by simp only [fnF] <;> omega)⟩), (fun h => absurd h (by simp [rdHello])), (fun i h => absurd h (by simp [rdHello])), (fun h => absurd h (by simp [rdHello])), ⟨(by simp only [fnF] <;> omega), (by simp only [fnF] <;> omega), (by simp only [fnF] <;> omega), (by simp only [fnF] <;> omega), (by simp only [fnF] <;> omega), (by simp only [fnF] <;> omega), (by simp only [fnF] <;> omega)⟩, ⟨(fun h => by cases h), (fun h => by cases h), (fun h => by cases h), (fun h => by cases h), (fun _ => rfl), fun i hi => absurd hi (by simp [rdHello])⟩, hcc, rfl⟩
  · rintro W ⟨p, bs, F, h1, h2, h3, h4, -⟩
    rw [mfHello]
    have hM := h4.has
    refine (helloFault_any W q (rdHello xs).v p.a2 p.a3 p.a5 p.a6 p.a9 (rdHello xs).r.length (rdHello xs).s.length (rdHello xs).ti.length (rdHello xs).bi.length p.c2 p.c3 p.c5 p.c6 p.c9 p.g5 (rdHello xs).ho (rdHello xs).pr (rdHello xs).ag (rdHello xs).ea isM.rL isM.sL isM.tiL isM.biL isM.hoL hM.pr hM.prC isM.prL isM.prZ (h3.cell 0) (h3.cell 1) (h3.cell 2) (h3.cell 3) (h3.cell 4) (h3.cell 5) (h3.cell 6) (h3.cell 7) (h3.cell 8)).mono ?_
    rintro e W' ⟨rfl, hw⟩
    exact ⟨rfl, by rw [hw]; exact Below.refl _ _⟩
  · rintro W ⟨p, bs, F, h1, h2, h3, h4, -⟩ f0
    have hM := h4.has
    rw [mfHello] at f0
    exact helloBody_any W q (rdHello xs).v ⟨p.g2, p.a2, p.c2, (rdHello xs).r⟩ ⟨p.g3, p.a3, p.c3, (rdHello xs).s⟩ ⟨p.g6, p.a6, p.c6, (rdHello xs).ti⟩ ⟨p.g9, p.a9, p.c9, (rdHello xs).bi⟩ (rdHello xs).ho p.g5 p.a5 p.c5 (rdHello xs).pr (rdHello xs).ag (rdHello xs).ea (h3.cell 0) (h3.cell 1) (h3.cell 2) (h3.cell 3) (h3.cell 4) (h3.cell 5) (h3.cell 6) (h3.cell 7) (h3.cell 8) (lstR_of hM.r h4.z.z2 isM.rL) (lstR_of hM.s h4.z.z3 isM.sL) (lstR_of hM.ti h4.z.z6 isM.tiL) (lstR_of hM.bi h4.z.z9 isM.biL) (txsR_of hM.pr (he_pr f0) isM.prZ) isM.hoL
end Go.Proofs.YtdnkgmlidhepbaaGreat
namespace Go.Proofs.YtdnkgmlidhepbaaGreat
open Go Go.RowKit
def cAnswer : MQ → Msg → List Value := fun p m => [.int .i64 m.v, .slice p.a2 m.r.length p.c2, .slice p.a3 m.s.length p.c3, .bool m.rs]
def nAnswer : MQ → MQ := fun p => { mq0 with a2 := p.a2, c2 := p.c2, g2 := p.g2, a3 := p.a3, c3 := p.c3, g3 := p.g3 }
theorem mfAnswer (xs : List Int) : mfF (rdAnswer xs) = fpF (rdAnswer xs).v (rdAnswer xs).r.length (rdAnswer xs).s.length := by unfold mfF; simp [kfF, rdAnswer, answerM, msg0, sameM]
set_option maxRecDepth 100000 in
set_option maxHeartbeats 1000000 in
theorem rwAnswer_any (w : World) (q g : Nat) (a : Option Addr) (c : Nat) (xs : List Int) (hq : RwC w q [.int .i64 0, .slice none 0 0, .slice none 0 0, .bool false] 78) (hr : Rd w g a .u8 xs) (hb : Byt xs) (hgq : 0 < xs.length → g ≠ q) (hc0 : a = none → c = 0) (hc : xs.length ≤ c) (hn : xs.length ≤ 1048576) :
    Calls Tryz.prog 54 #[.iface 76 (.pointer (some ⟨q, 0, none⟩)), .slice a xs.length c] w fun e w' => e = .returned (.bool (decide (mfF (rdAnswer xs) = 0 ∧ bodF (rdAnswer xs) = xs))) ∧ (decide (mfF (rdAnswer xs) = 0 ∧ bodF (rdAnswer xs) = xs) = true → RK cAnswer nAnswer 78 w.heap.size q (rdAnswer xs) w') ∧ Tch [q] w w' := by
  have hfit : bodF (rdM 2 xs) = xs → 66 ≤ xs.length := fun h => fit_rd (k := 2) (by decide) h
  have eB := rwB_is (k := 2) (xs := xs) (fits := 66 ≤ xs.length) hfit
  have isM : IsM (rdAnswer xs) := isM_rd hb 2
  have hql := hq.lt
  rw [show rdM 2 xs = rdAnswer xs from rfl] at eB
  rw [← eB]
  refine readWhole_core w q g a c xs (bodF (rdAnswer xs)) (mfF (rdAnswer xs)) (66 ≤ xs.length) 76 78 [.int .i64 0, .slice none 0 0, .slice none 0 0, .bool false] 115 96 114 (RK cAnswer nAnswer 78 w.heap.size q (rdAnswer xs)) hq hr hb (byt_rd hb 2) hgq (fun _ _ => by kernel_rfl) (fun _ _ => by kernel_rfl) (fun _ _ => by kernel_rfl) (fun _ _ => by kernel_rfl) (fun _ _ => by kernel_rfl) (fun _ _ => by kernel_rfl) ?_ ?_ ?_ (fun W W' h n => h.up n) (fun W W' h O => h.onl (by omega) O)
  · intro W p hQ hC hqp hpl hR hgp hwp
    refine (ansRead_any W q p g a c xs 78 hQ hqp hC hpl hR hb hgp hgq hc0 hc hn).mono ?_
    rintro e W' ⟨⟨hfits, rfl, G1, G2, Q, B1, l1, B2, l2, o12⟩ | ⟨hbad, hpan⟩, K⟩
    rotate_left
    · exact ⟨.inr ⟨by omega, hpan⟩, K⟩
    have hql2 := hQ.lt
    have sK : W.heap.size ≤ W'.heap.size := K.size
    refine ⟨.inl ⟨hfits, rfl, ⟨some ⟨G1, 0, none⟩, 32, G1, some ⟨G2, 0, none⟩, 32, G2, none, 0, 0, none, 0, 0, none, 0, 0, none, 0, 0, none, 0, 0, []⟩, [], fnF W.heap.size G2 (G2 + 1) (G2 + 1) (G2 + 1) (G2 + 1) (G2 + 1) (G2 + 1), (show w.heap.size < W.heap.size by omega), (show q < W.heap.size by omega), ?_, ?_, rfl⟩, K⟩
    · show RwC W' q [.int .i64 (beN xs 0 1), .slice (some ⟨G1, 0, none⟩) (tkB xs 1 32).length 32, .slice (some ⟨G2, 0, none⟩) (tkB xs 33 32).length 32, .bool (beN xs 65 1 == 1)] 78
      rw [tkB_len, tkB_len]
      exact Q
    · exact ⟨B1.own0, B2.own0, nilT _ _, (fun h => absurd h (by simp [rdAnswer])), (fun h => absurd h (by simp [rdAnswer])), BRow.nil _ _, (fun h => absurd h (by simp [rdAnswer])), (fun _ => ⟨(by simp only [fnF] <;> omega), (by simp only [fnF] <;> omega)⟩), (fun _ => ⟨(by simp only [fnF] <;> omega), (by simp only [fnF] <;> omega)⟩), (fun h => absurd h (by simp [rdAnswer])), (fun h => absurd h (by simp [rdAnswer])), (fun h => absurd h (by simp [rdAnswer])), (fun h => absurd h (by simp [rdAnswer])), (fun i h => absurd h (by simp [rdAnswer])), (fun h => absurd h (by simp [rdAnswer])), ⟨(by simp only [fnF] <;> omega), (by simp only [fnF] <;> omega), (by simp only [fnF] <;> omega), (by simp only [fnF] <;> omega), (by simp only [fnF] <;> omega), (by simp only [fnF] <;> omega), (by simp only [fnF] <;> omega)⟩, ⟨(fun h => by cases h), (fun h => by cases h), (fun _ => rfl), (fun _ => rfl), (fun _ => rfl), fun i hi => absurd hi (by simp [rdAnswer])⟩, Nat.zero_le _, rfl⟩
  · rintro W ⟨p, bs, F, h1, h2, h3, h4, -⟩
    rw [mfAnswer]
    refine (firstFault_any W q (rdAnswer xs).v p.a2 p.a3 (rdAnswer xs).r.length (rdAnswer xs).s.length p.c2 p.c3 isM.rL isM.sL (h3.cell 0) (h3.cell 1) (h3.cell 2)).mono ?_
    rintro e W' ⟨rfl, hw⟩
    exact ⟨rfl, by rw [hw]; exact Below.refl _ _⟩
  · rintro W ⟨p, bs, F, h1, h2, h3, h4, -⟩ f0
    have hM := h4.has
    exact answerBody_any W q (rdAnswer xs).v ⟨p.g2, p.a2, p.c2, (rdAnswer xs).r⟩ ⟨p.g3, p.a3, p.c3, (rdAnswer xs).s⟩ (rdAnswer xs).rs (h3.cell 0) (h3.cell 1) (h3.cell 2) (h3.cell 3) (lstR_of hM.r h4.z.z2 isM.rL) (lstR_of hM.s h4.z.z3 isM.sL)
end Go.Proofs.YtdnkgmlidhepbaaGreat
namespace Go.Proofs.YtdnkgmlidhepbaaGreat
open Go Go.RowKit
def cTicket : MQ → Msg → List Value := fun p m => [.int .i64 m.ag, .int .i64 m.ea, .slice p.a2 m.r.length p.c2, .slice p.a6 m.ti.length p.c6]
def nTicket : MQ → MQ := fun p => { mq0 with a2 := p.a2, c2 := p.c2, g2 := p.g2, a6 := p.a6, c6 := p.c6, g6 := p.g6 }
theorem mfTicket (xs : List Int) : mfF (rdTicket xs) = tiF (rdTicket xs).ag (rdTicket xs).ea (rdTicket xs).r.length (rdTicket xs).ti.length := by unfold mfF; simp [kfF, rdTicket, ticketM, msg0, sameM]
set_option maxRecDepth 100000 in
set_option maxHeartbeats 1000000 in
theorem rwTicket_any (w : World) (q g : Nat) (a : Option Addr) (c : Nat) (xs : List Int) (hq : RwC w q [.int .i64 0, .int .i64 0, .slice none 0 0, .slice none 0 0] 81) (hr : Rd w g a .u8 xs) (hb : Byt xs) (hgq : 0 < xs.length → g ≠ q) (hc0 : a = none → c = 0) (hc : xs.length ≤ c) (hn : xs.length ≤ 1048576) :
    Calls Tryz.prog 54 #[.iface 79 (.pointer (some ⟨q, 0, none⟩)), .slice a xs.length c] w fun e w' => e = .returned (.bool (decide (mfF (rdTicket xs) = 0 ∧ bodF (rdTicket xs) = xs))) ∧ (decide (mfF (rdTicket xs) = 0 ∧ bodF (rdTicket xs) = xs) = true → RK cTicket nTicket 81 w.heap.size q (rdTicket xs) w') ∧ Tch [q] w w' := by
  have hfit : bodF (rdM 4 xs) = xs → 42 + (beN xs 40 2).toNat ≤ xs.length := fun h => fit_rd (k := 4) (by decide) h
  have eB := rwB_is (k := 4) (xs := xs) (fits := 42 + (beN xs 40 2).toNat ≤ xs.length) hfit
  have isM : IsM (rdTicket xs) := isM_rd hb 4
  have hql := hq.lt
  rw [show rdM 4 xs = rdTicket xs from rfl] at eB
  rw [← eB]
  refine readWhole_core w q g a c xs (bodF (rdTicket xs)) (mfF (rdTicket xs)) (42 + (beN xs 40 2).toNat ≤ xs.length) 79 81 [.int .i64 0, .int .i64 0, .slice none 0 0, .slice none 0 0] 119 118 117 (RK cTicket nTicket 81 w.heap.size q (rdTicket xs)) hq hr hb (byt_rd hb 4) hgq (fun _ _ => by kernel_rfl) (fun _ _ => by kernel_rfl) (fun _ _ => by kernel_rfl) (fun _ _ => by kernel_rfl) (fun _ _ => by kernel_rfl) (fun _ _ => by kernel_rfl) ?_ ?_ ?_ (fun W W' h n => h.up n) (fun W W' h O => h.onl (by omega) O)
  · intro W p hQ hC hqp hpl hR hgp hwp
    refine (tickRead_any W q p g a c xs 81 hQ hqp hC hpl hR hb hgp hgq hc0 hc hn).mono ?_
    rintro e W' ⟨⟨hfits, rfl, G1, G2, Q, B1, l1, B2, l2, o12⟩ | ⟨hbad, hpan⟩, K⟩
    rotate_left
    · exact ⟨.inr ⟨by omega, hpan⟩, K⟩
    have hql2 := hQ.lt
    have sK : W.heap.size ≤ W'.heap.size := K.size
    refine ⟨.inl ⟨hfits, rfl, ⟨some ⟨G1, 0, none⟩, 32, G1, none, 0, 0, none, 0, 0, some ⟨G2, 0, none⟩, (beN xs 40 2).toNat, G2, none, 0, 0, none, 0, 0, none, 0, 0, []⟩, [], fnF W.heap.size G2 G2 G2 (G2 + 1) (G2 + 1) (G2 + 1) (G2 + 1), (show w.heap.size < W.heap.size by omega), (show q < W.heap.size by omega), ?_, ?_, rfl⟩, K⟩
    · show RwC W' q [.int .i64 (beN xs 0 4), .int .i64 (beN xs 4 4), .slice (some ⟨G1, 0, none⟩) (tkB xs 8 32).length 32, .slice (some ⟨G2, 0, none⟩) (tkB xs 42 (beN xs 40 2).toNat).length (beN xs 40 2).toNat] 81
      rw [tkB_len, tkB_len]
      exact Q
    · exact ⟨B1.own0, (fun h => absurd h (by simp [rdTicket])), nilT _ _, B2.own0, (fun h => absurd h (by simp [rdTicket])), BRow.nil _ _, (fun h => absurd h (by simp [rdTicket])), (fun _ => ⟨(by simp only [fnF] <;> omega), (by simp only [fnF] <;> omega)⟩), (fun h => absurd h (by simp [rdTicket])), (fun h => absurd h (by simp [rdTicket])), (fun _ => ⟨(by simp only [fnF] <;> omega), (by simp only [fnF] <;> omega)⟩), (fun h => absurd h (by simp [rdTicket])), (fun h => absurd h (by simp [rdTicket])), (fun i h => absurd h (by simp [rdTicket])), (fun h => absurd h (by simp [rdTicket])), ⟨(by simp only [fnF] <;> omega), (by simp only [fnF] <;> omega), (by simp only [fnF] <;> omega), (by simp only [fnF] <;> omega), (by simp only [fnF] <;> omega), (by simp only [fnF] <;> omega), (by simp only [fnF] <;> omega)⟩, ⟨(fun h => by cases h), (fun _ => rfl), (fun h => by cases h), (fun _ => rfl), (fun _ => rfl), fun i hi => absurd hi (by simp [rdTicket])⟩, Nat.zero_le _, rfl⟩
  · rintro W ⟨p, bs, F, h1, h2, h3, h4, -⟩
    rw [mfTicket]
    refine (ticketFault_any W q (rdTicket xs).ag (rdTicket xs).ea p.a2 p.a6 (rdTicket xs).r.length (rdTicket xs).ti.length p.c2 p.c6 isM.rL isM.tiL (h3.cell 0) (h3.cell 1) (h3.cell 2) (h3.cell 3)).mono ?_
    rintro e W' ⟨rfl, hw⟩
    exact ⟨rfl, by rw [hw]; exact Below.refl _ _⟩
  · rintro W ⟨p, bs, F, h1, h2, h3, h4, -⟩ f0
    have hM := h4.has
    exact ticketBody_any W q (rdTicket xs).ag (rdTicket xs).ea ⟨p.g2, p.a2, p.c2, (rdTicket xs).r⟩ ⟨p.g6, p.a6, p.c6, (rdTicket xs).ti⟩ (h3.cell 0) (h3.cell 1) (h3.cell 2) (h3.cell 3) (lstR_of hM.r h4.z.z2 isM.rL) (lstR_of hM.ti h4.z.z6 isM.tiL)
end Go.Proofs.YtdnkgmlidhepbaaGreat
namespace Go.Proofs.YtdnkgmlidhepbaaGreat
open Go Go.RowKit
def cEnd : MQ → Msg → List Value := fun _ _ => []
def nEnd : MQ → MQ := fun _ => mq0
theorem mfEnd (xs : List Int) : mfF (rdEnd xs) = 0 := by unfold mfF; simp [kfF, rdEnd, endM, msg0, sameM]
theorem endRead_any (w : World) (u v : Value) : Calls Tryz.prog 123 #[u, v] w fun e w' => e = .returned (.tuple #[]) ∧ w' = w := by
  go_enter Tryz.func123, Tryz.ntmps123
  go_wp2
  go_end0
  exact ⟨rfl, rfl⟩
set_option maxRecDepth 100000 in
set_option maxHeartbeats 1000000 in
theorem rwEnd_any (w : World) (q g : Nat) (a : Option Addr) (c : Nat) (xs : List Int) (hq : RwC w q [] 84) (hr : Rd w g a .u8 xs) (hb : Byt xs) (hgq : 0 < xs.length → g ≠ q) (_hc0 : a = none → c = 0) (_hc : xs.length ≤ c) (_hn : xs.length ≤ 1048576) :
    Calls Tryz.prog 54 #[.iface 82 (.pointer (some ⟨q, 0, none⟩)), .slice a xs.length c] w fun e w' => e = .returned (.bool (decide (mfF (rdEnd xs) = 0 ∧ bodF (rdEnd xs) = xs))) ∧ (decide (mfF (rdEnd xs) = 0 ∧ bodF (rdEnd xs) = xs) = true → RK cEnd nEnd 84 w.heap.size q (rdEnd xs) w') ∧ Tch [q] w w' := by
  have hfit : bodF (rdM 5 xs) = xs → True := fun h => fit_rd (k := 5) (by decide) h
  have eB := rwB_is (k := 5) (xs := xs) (fits := True) hfit
  have isM : IsM (rdEnd xs) := isM_rd hb 5
  have hql := hq.lt
  rw [show rdM 5 xs = rdEnd xs from rfl] at eB
  rw [← eB]
  refine readWhole_core w q g a c xs (bodF (rdEnd xs)) (mfF (rdEnd xs)) (True) 82 84 [] 123 122 121 (RK cEnd nEnd 84 w.heap.size q (rdEnd xs)) hq hr hb (byt_rd hb 5) hgq (fun _ _ => by kernel_rfl) (fun _ _ => by kernel_rfl) (fun _ _ => by kernel_rfl) (fun _ _ => by kernel_rfl) (fun _ _ => by kernel_rfl) (fun _ _ => by kernel_rfl) ?_ ?_ ?_ (fun W W' h n => h.up n) (fun W W' h O => h.onl (by omega) O)
  · intro W p hQ hC hqp hpl hR hgp hwp
    refine (endRead_any W (.pointer (some ⟨q, 0, none⟩)) (.pointer (some ⟨p, 0, none⟩))).mono ?_
    rintro e W' ⟨rfl, hw⟩
    have hw := hw.symm
    subst hw
    have hql2 := hQ.lt
    refine ⟨.inl ⟨trivial, rfl, ?_⟩, Tch.of_below (Below.refl _ _)⟩
    exact ⟨mq0, [], fun _ => W.heap.size, (show w.heap.size < W.heap.size by omega), (show q < W.heap.size by omega), hQ, ⟨(fun h => absurd h (by simp [rdEnd])), (fun h => absurd h (by simp [rdEnd])), nilT _ _, (fun h => absurd h (by simp [rdEnd])), (fun h => absurd h (by simp [rdEnd])), BRow.nil _ _, (fun h => absurd h (by simp [rdEnd])), (fun h => absurd h (by simp [rdEnd])), (fun h => absurd h (by simp [rdEnd])), (fun h => absurd h (by simp [rdEnd])), (fun h => absurd h (by simp [rdEnd])), (fun h => absurd h (by simp [rdEnd])), (fun h => absurd h (by simp [rdEnd])), (fun i h => absurd h (by simp [rdEnd])), (fun h => absurd h (by simp [rdEnd])), ⟨Nat.le_refl _, Nat.le_refl _, Nat.le_refl _, Nat.le_refl _, Nat.le_refl _, Nat.le_refl _, Nat.le_refl _⟩, ⟨(fun _ => rfl), (fun _ => rfl), (fun _ => rfl), (fun _ => rfl), (fun _ => rfl), fun i hi => absurd hi (by simp [rdEnd])⟩, Nat.zero_le _, rfl⟩, rfl⟩
  · rintro W ⟨p, bs, F, h1, h2, h3, h4, -⟩
    rw [mfEnd]
    refine (endFault_any W (.pointer (some ⟨q, 0, none⟩))).mono ?_
    rintro e W' ⟨rfl, hw⟩
    exact ⟨rfl, by rw [hw]; exact Below.refl _ _⟩
  · rintro W ⟨p, bs, F, h1, h2, h3, h4, -⟩ f0
    exact endBody_any W _
end Go.Proofs.YtdnkgmlidhepbaaGreat
namespace Go.Proofs.YtdnkgmlidhepbaaGreat
open Go Go.RowKit
def cExtras : MQ → Msg → List Value := fun p m => [.slice p.a5 m.pr.length p.c5, .int .i64 m.ea]
def nExtras : MQ → MQ := fun p => { mq0 with a5 := p.a5, c5 := p.c5, g5 := p.g5 }
theorem mfExtras (xs : List Int) : mfF (rdExtras xs) = exF (rdExtras xs).pr (rdExtras xs).ea := by unfold mfF; simp [kfF, rdExtras, extrasM, msg0, sameM]
set_option maxRecDepth 100000 in
set_option maxHeartbeats 1000000 in
theorem rwExtras_any (w : World) (q g : Nat) (a : Option Addr) (c : Nat) (xs : List Int) (hq : RwC w q [.slice none 0 0, .int .i64 0] 87) (hr : Rd w g a .u8 xs) (hb : Byt xs) (hgq : 0 < xs.length → g ≠ q) (hc0 : a = none → c = 0) (hc : xs.length ≤ c) (hn : xs.length ≤ 1048576) :
    Calls Tryz.prog 54 #[.iface 85 (.pointer (some ⟨q, 0, none⟩)), .slice a xs.length c] w fun e w' => e = .returned (.bool (decide (mfF (rdExtras xs) = 0 ∧ bodF (rdExtras xs) = xs))) ∧ (decide (mfF (rdExtras xs) = 0 ∧ bodF (rdExtras xs) = xs) = true → RK cExtras nExtras 87 w.heap.size q (rdExtras xs) w') ∧ Tch [q] w w' := by
  have hfit : bodF (rdM 8 xs) = xs → 0 < xs.length ∧ ppT xs 1 (xs.getD 0 0).toNat + 1 ≤ xs.length := fun h => fit_rd (k := 8) (by decide) h
  have eB := rwB_is (k := 8) (xs := xs) (fits := 0 < xs.length ∧ ppT xs 1 (xs.getD 0 0).toNat + 1 ≤ xs.length) hfit
  have isM : IsM (rdExtras xs) := isM_rd hb 8
  have hql := hq.lt
  rw [show rdM 8 xs = rdExtras xs from rfl] at eB
  rw [← eB]
  refine readWhole_core w q g a c xs (bodF (rdExtras xs)) (mfF (rdExtras xs)) (0 < xs.length ∧ ppT xs 1 (xs.getD 0 0).toNat + 1 ≤ xs.length) 85 87 [.slice none 0 0, .int .i64 0] 127 126 125 (RK cExtras nExtras 87 w.heap.size q (rdExtras xs)) hq hr hb (byt_rd hb 8) hgq (fun _ _ => by kernel_rfl) (fun _ _ => by kernel_rfl) (fun _ _ => by kernel_rfl) (fun _ _ => by kernel_rfl) (fun _ _ => by kernel_rfl) (fun _ _ => by kernel_rfl) ?_ ?_ ?_ (fun W W' h n => h.up n) (fun W W' h O => h.onl (by omega) O)
  · intro W p hQ hC hqp hpl hR hgp hwp
    refine (extRead_any W q p g a c xs 87 hQ hqp hC hpl hR hb hgp hgq hc0 hc hn).mono ?_
    rintro e W' ⟨⟨hf1, hf2, rfl, v, Q, RT⟩ | ⟨hbad, hpan⟩, K⟩
    rotate_left
    · exact ⟨.inr ⟨hbad, hpan⟩, K⟩
    have hql2 := hQ.lt
    have sK : W.heap.size ≤ W'.heap.size := K.size
    obtain ⟨ra, rl, rc, hrv⟩ : ∃ ra rl rc, v = .slice ra rl rc := by
      rcases RT.2 with ⟨h', _⟩ | ⟨g', cap, cur, h', _⟩
      · exact ⟨_, _, _, h'⟩
      · exact ⟨_, _, _, h'⟩
    subst hrv
    obtain ⟨hl, hcc, hzz, -⟩ := RowT.rdT RT
    subst hl
    refine ⟨.inl ⟨⟨hf1, hf2⟩, rfl, ⟨none, 0, 0, none, 0, 0, ra, rc, adB ra, none, 0, 0, none, 0, 0, none, 0, 0, none, 0, 0, []⟩, [], fnF W.heap.size W.heap.size W.heap.size W'.heap.size W'.heap.size W'.heap.size W'.heap.size W'.heap.size, (show w.heap.size < W.heap.size by omega), (show q < W.heap.size by omega), Q, ?_, rfl⟩, K⟩
    exact ⟨(fun h => absurd h (by simp [rdExtras])), (fun h => absurd h (by simp [rdExtras])), RT, (fun h => absurd h (by simp [rdExtras])), (fun h => absurd h (by simp [rdExtras])), BRow.nil _ _, (fun h => absurd h (by simp [rdExtras])), (fun h => absurd h (by simp [rdExtras])), (fun h => absurd h (by simp [rdExtras])), (fun h0 => ⟨(rowT_place RT h0).1, (rowT_place RT h0).2.2.2⟩), (fun h => absurd h (by simp [rdExtras])), (fun h => absurd h (by simp [rdExtras])), (fun h => absurd h (by simp [rdExtras])), (fun i h => absurd h (by simp [rdExtras])), (fun h => absurd h (by simp [rdExtras])), ⟨(by simp only [fnF] <;> omega), (by simp only [fnF] <;> omega), (by simp only [fnF] <;> omega), (by simp only [fnF] <;> omega), (by simp only [fnF] <;> omega), (by simp only [fnF] <;> omega), (by simp only [fnF] <;> omega)⟩, ⟨(fun _ => rfl), (fun _ => rfl), (fun _ => rfl), (fun _ => rfl), (fun _ => rfl), fun i hi => absurd hi (by simp [rdExtras])⟩, hcc, rfl⟩
  · rintro W ⟨p, bs, F, h1, h2, h3, h4, -⟩
    rw [mfExtras]
    have hM := h4.has
    refine (extrasFault_any W q p.a5 p.c5 p.g5 (rdExtras xs).pr (rdExtras xs).ea hM.pr hM.prC isM.prL isM.prZ (h3.cell 0) (h3.cell 1)).mono ?_
    rintro e W' ⟨rfl, hw⟩
    exact ⟨rfl, by rw [hw]; exact Below.refl _ _⟩
  · rintro W ⟨p, bs, F, h1, h2, h3, h4, -⟩ f0
    have hM := h4.has
    rw [mfExtras] at f0
    exact extrasBody_any W q p.g5 p.a5 p.c5 (rdExtras xs).pr (rdExtras xs).ea (h3.cell 0) (h3.cell 1) (txsR_of hM.pr (ex_pr f0) isM.prZ)
end Go.Proofs.YtdnkgmlidhepbaaGreat
namespace Go.Proofs.YtdnkgmlidhepbaaGreat
open Go Go.RowKit
def cCerts : MQ → Msg → List Value := fun p m => [.slice p.a11 m.ce.length p.c11]
def nCerts : MQ → MQ := fun p => { mq0 with a11 := p.a11, c11 := p.c11, g11 := p.g11, ps := p.ps }
theorem mfCerts (xs : List Int) : mfF (rdCerts xs) = ceF (rdCerts xs).ce := by unfold mfF; simp [kfF, rdCerts, certsM, msg0, sameM]
set_option maxRecDepth 100000 in
set_option maxHeartbeats 1000000 in
theorem rwCerts_any (w : World) (q g : Nat) (a : Option Addr) (c : Nat) (xs : List Int) (hq : RwC w q [.slice none 0 0] 90) (hr : Rd w g a .u8 xs) (hb : Byt xs) (hgq : 0 < xs.length → g ≠ q) (hc0 : a = none → c = 0) (hc : xs.length ≤ c) (hn : xs.length ≤ 1048576) :
    Calls Tryz.prog 54 #[.iface 88 (.pointer (some ⟨q, 0, none⟩)), .slice a xs.length c] w fun e w' => e = .returned (.bool (decide (mfF (rdCerts xs) = 0 ∧ bodF (rdCerts xs) = xs))) ∧ (decide (mfF (rdCerts xs) = 0 ∧ bodF (rdCerts xs) = xs) = true → RK cCerts nCerts 90 w.heap.size q (rdCerts xs) w') ∧ Tch [q] w w' := by
  have hfit : bodF (rdM 11 xs) = xs → 0 < xs.length ∧ ppL xs 1 (xs.getD 0 0).toNat ≤ xs.length := fun h => fit_rd (k := 11) (by decide) h
  have eB := rwB_is (k := 11) (xs := xs) (fits := 0 < xs.length ∧ ppL xs 1 (xs.getD 0 0).toNat ≤ xs.length) hfit
  have isM : IsM (rdCerts xs) := isM_rd hb 11
  have hql := hq.lt
  rw [show rdM 11 xs = rdCerts xs from rfl] at eB
  rw [← eB]
  refine readWhole_core w q g a c xs (bodF (rdCerts xs)) (mfF (rdCerts xs)) (0 < xs.length ∧ ppL xs 1 (xs.getD 0 0).toNat ≤ xs.length) 88 90 [.slice none 0 0] 131 130 129 (RK cCerts nCerts 90 w.heap.size q (rdCerts xs)) hq hr hb (byt_rd hb 11) hgq (fun _ _ => by kernel_rfl) (fun _ _ => by kernel_rfl) (fun _ _ => by kernel_rfl) (fun _ _ => by kernel_rfl) (fun _ _ => by kernel_rfl) (fun _ _ => by kernel_rfl) ?_ ?_ ?_ (fun W W' h n => h.up n) (fun W W' h O => h.onl (by omega) O)
  · intro W p hQ hC hqp hpl hR hgp hwp
    refine (certsRead_any W q p g a c xs 90 hQ hqp hC hpl hR hb hgp hgq hc0 hc hn).mono ?_
    rintro e W' ⟨⟨hf1, hf2, rfl, v, bs, Q, BR⟩ | ⟨hbad, hpan⟩, K⟩
    rotate_left
    · exact ⟨.inr ⟨hbad, hpan⟩, K⟩
    have hql2 := hQ.lt
    have sK : W.heap.size ≤ W'.heap.size := K.size
    obtain ⟨ra, rc, hrv, hz0⟩ := BR.slice
    subst hrv
    refine ⟨.inl ⟨⟨hf1, hf2⟩, rfl, ⟨none, 0, 0, none, 0, 0, none, 0, 0, none, 0, 0, none, 0, 0, ra, rc, adB ra, none, 0, 0, plbs bs⟩, bs, fnF W.heap.size W.heap.size W.heap.size W.heap.size W.heap.size W.heap.size W'.heap.size W'.heap.size, (show w.heap.size < W.heap.size by omega), (show q < W.heap.size by omega), Q, ?_, rfl⟩, K⟩
    exact ⟨(fun h => absurd h (by simp [rdCerts])), (fun h => absurd h (by simp [rdCerts])), nilT _ _, (fun h => absurd h (by simp [rdCerts])), (fun h => absurd h (by simp [rdCerts])), BR, (fun h => absurd h (by simp [rdCerts])), (fun h => absurd h (by simp [rdCerts])), (fun h => absurd h (by simp [rdCerts])), (fun h => absurd h (by simp [rdCerts])), (fun h => absurd h (by simp [rdCerts])), (fun h => absurd h (by simp [rdCerts])), (fun h0 => bRow_place BR h0), (fun i hi h0 => BR.lt hi h0), (fun h => absurd h (by simp [rdCerts])), ⟨(by simp only [fnF] <;> omega), (by simp only [fnF] <;> omega), (by simp only [fnF] <;> omega), (by simp only [fnF] <;> omega), (by simp only [fnF] <;> omega), (by simp only [fnF] <;> omega), (by simp only [fnF] <;> omega)⟩, (certsZ (B := W.heap.size) (va := ra) (vc := rc) (n := (xs.getD 0 0).toNat) (by rw [clT_len] at BR; exact BR) rfl), Nat.zero_le _, rfl⟩
  · rintro W ⟨p, bs, F, h1, h2, h3, h4, -⟩
    rw [mfCerts]
    have hM := h4.has
    exact (certsFault_any W q p.g11 p.a11 p.c11 (rdCerts xs).ce p.ps hM.ce isM.ceL isM.ceZ (h3.cell 0)).mono (by rintro e W' ⟨rfl, n⟩; exact ⟨rfl, n⟩)
  · rintro W ⟨p, bs, F, h1, h2, h3, h4, -⟩ f0
    have hM := h4.has
    rw [mfCerts] at f0
    exact certsBody_any W q p.g11 p.a11 p.c11 (rdCerts xs).ce p.ps (h3.cell 0) (ctsR_of hM.ce (ce_n f0) isM.ceZ h4.z.zc)
end Go.Proofs.YtdnkgmlidhepbaaGreat
namespace Go.Proofs.YtdnkgmlidhepbaaGreat
open Go Go.RowKit
def cProof : MQ → Msg → List Value := fun p m => [.slice p.a12 m.pf.length p.c12]
def nProof : MQ → MQ := fun p => { mq0 with a12 := p.a12, c12 := p.c12, g12 := p.g12 }
theorem mfProof (xs : List Int) : mfF (rdProof xs) = pfF 64 (rdProof xs).pf.length := by unfold mfF; simp [kfF, rdProof, proofM, msg0, sameM]
set_option maxRecDepth 100000 in
set_option maxHeartbeats 1000000 in
theorem rwProof_any (w : World) (q g : Nat) (a : Option Addr) (c : Nat) (xs : List Int) (hq : RwC w q [.slice none 0 0] 93) (hr : Rd w g a .u8 xs) (hb : Byt xs) (hgq : 0 < xs.length → g ≠ q) (hc0 : a = none → c = 0) (hc : xs.length ≤ c) (hn : xs.length ≤ 1048576) :
    Calls Tryz.prog 54 #[.iface 91 (.pointer (some ⟨q, 0, none⟩)), .slice a xs.length c] w fun e w' => e = .returned (.bool (decide (mfF (rdProof xs) = 0 ∧ bodF (rdProof xs) = xs))) ∧ (decide (mfF (rdProof xs) = 0 ∧ bodF (rdProof xs) = xs) = true → RK cProof nProof 93 w.heap.size q (rdProof xs) w') ∧ Tch [q] w w' := by
  have hfit : bodF (rdM 15 xs) = xs → 64 ≤ xs.length := fun h => fit_rd (k := 15) (by decide) h
  have eB := rwB_is (k := 15) (xs := xs) (fits := 64 ≤ xs.length) hfit
  have isM : IsM (rdProof xs) := isM_rd hb 15
  have hql := hq.lt
  rw [show rdM 15 xs = rdProof xs from rfl] at eB
  rw [← eB]
  refine readWhole_core w q g a c xs (bodF (rdProof xs)) (mfF (rdProof xs)) (64 ≤ xs.length) 91 93 [.slice none 0 0] 138 137 136 (RK cProof nProof 93 w.heap.size q (rdProof xs)) hq hr hb (byt_rd hb 15) hgq (fun _ _ => by kernel_rfl) (fun _ _ => by kernel_rfl) (fun _ _ => by kernel_rfl) (fun _ _ => by kernel_rfl) (fun _ _ => by kernel_rfl) (fun _ _ => by kernel_rfl) ?_ ?_ ?_ (fun W W' h n => h.up n) (fun W W' h O => h.onl (by omega) O)
  · intro W p hQ hC hqp hpl hR hgp hwp
    refine (proofRead_any W q p g a c xs 93 hQ hqp hC hR hc0 hc hn).mono ?_
    rintro e W' ⟨⟨hfits, rfl, Q, B⟩ | ⟨hbad, hpan⟩, K⟩
    rotate_left
    · exact ⟨.inr ⟨by omega, hpan⟩, K⟩
    have hql2 := hQ.lt
    have sK : W.heap.size ≤ W'.heap.size := K.size
    have B : Blk W' W.heap.size .u8 (tkB xs 0 64) := by rw [← tkB_take xs 0 64 (by omega)]; exact B
    refine ⟨.inl ⟨hfits, rfl, ⟨none, 0, 0, none, 0, 0, none, 0, 0, none, 0, 0, none, 0, 0, none, 0, 0, some ⟨W.heap.size, 0, none⟩, 64, W.heap.size, []⟩, [], fnF W.heap.size W.heap.size W.heap.size W.heap.size W.heap.size W.heap.size W.heap.size (W.heap.size + 1), (show w.heap.size < W.heap.size by omega), (show q < W.heap.size by omega), ?_, ?_, rfl⟩, K⟩
    · show RwC W' q [.slice (some ⟨W.heap.size, 0, none⟩) (tkB xs 0 64).length 64] 93
      rw [tkB_len]
      exact Q
    · exact ⟨(fun h => absurd h (by simp [rdProof])), (fun h => absurd h (by simp [rdProof])), nilT _ _, (fun h => absurd h (by simp [rdProof])), (fun h => absurd h (by simp [rdProof])), BRow.nil _ _, B.own0, (fun h => absurd h (by simp [rdProof])), (fun h => absurd h (by simp [rdProof])), (fun h => absurd h (by simp [rdProof])), (fun h => absurd h (by simp [rdProof])), (fun h => absurd h (by simp [rdProof])), (fun h => absurd h (by simp [rdProof])), (fun i h => absurd h (by simp [rdProof])), (fun _ => ⟨(by simp only [fnF] <;> omega), (by simp only [fnF] <;> omega)⟩), ⟨(by simp only [fnF] <;> omega), (by simp only [fnF] <;> omega), (by simp only [fnF] <;> omega), (by simp only [fnF] <;> omega), (by simp only [fnF] <;> omega), (by simp only [fnF] <;> omega), (by simp only [fnF] <;> omega)⟩, ⟨(fun _ => rfl), (fun _ => rfl), (fun _ => rfl), (fun _ => rfl), (fun h => by cases h), fun i hi => absurd hi (by simp [rdProof])⟩, Nat.zero_le _, rfl⟩
  · rintro W ⟨p, bs, F, h1, h2, h3, h4, -⟩
    rw [mfProof]
    refine (proofFault_any W q p.a12 (rdProof xs).pf.length p.c12 isM.pfL (h3.cell 0)).mono ?_
    rintro e W' ⟨rfl, hw⟩
    exact ⟨rfl, by rw [hw]; exact Below.refl _ _⟩
  · rintro W ⟨p, bs, F, h1, h2, h3, h4, -⟩ f0
    have hM := h4.has
    exact proofBody_any W q ⟨p.g12, p.a12, p.c12, (rdProof xs).pf⟩ (lstR_of hM.pf h4.z.z12 isM.pfL) (h3.cell 0)
end Go.Proofs.YtdnkgmlidhepbaaGreat
namespace Go.Proofs.YtdnkgmlidhepbaaGreat
open Go Go.RowKit
def cFinished : MQ → Msg → List Value := fun p m => [.slice p.a12 m.pf.length p.c12]
def nFinished : MQ → MQ := fun p => { mq0 with a12 := p.a12, c12 := p.c12, g12 := p.g12 }
theorem mfFinished (xs : List Int) : mfF (rdFinished xs) = pfF 32 (rdFinished xs).pf.length := by unfold mfF; simp [kfF, rdFinished, finishedM, msg0, sameM]
set_option maxRecDepth 100000 in
set_option maxHeartbeats 1000000 in
theorem rwFinished_any (w : World) (q g : Nat) (a : Option Addr) (c : Nat) (xs : List Int) (hq : RwC w q [.slice none 0 0] 95) (hr : Rd w g a .u8 xs) (hb : Byt xs) (hgq : 0 < xs.length → g ≠ q) (hc0 : a = none → c = 0) (hc : xs.length ≤ c) (hn : xs.length ≤ 1048576) :
    Calls Tryz.prog 54 #[.iface 94 (.pointer (some ⟨q, 0, none⟩)), .slice a xs.length c] w fun e w' => e = .returned (.bool (decide (mfF (rdFinished xs) = 0 ∧ bodF (rdFinished xs) = xs))) ∧ (decide (mfF (rdFinished xs) = 0 ∧ bodF (rdFinished xs) = xs) = true → RK cFinished nFinished 95 w.heap.size q (rdFinished xs) w') ∧ Tch [q] w w' := by
  have hfit : bodF (rdM 20 xs) = xs → 32 ≤ xs.length := fun h => fit_rd (k := 20) (by decide) h
  have eB := rwB_is (k := 20) (xs := xs) (fits := 32 ≤ xs.length) hfit
  have isM : IsM (rdFinished xs) := isM_rd hb 20
  have hql := hq.lt
  rw [show rdM 20 xs = rdFinished xs from rfl] at eB
  rw [← eB]
  refine readWhole_core w q g a c xs (bodF (rdFinished xs)) (mfF (rdFinished xs)) (32 ≤ xs.length) 94 95 [.slice none 0 0] 142 141 140 (RK cFinished nFinished 95 w.heap.size q (rdFinished xs)) hq hr hb (byt_rd hb 20) hgq (fun _ _ => by kernel_rfl) (fun _ _ => by kernel_rfl) (fun _ _ => by kernel_rfl) (fun _ _ => by kernel_rfl) (fun _ _ => by kernel_rfl) (fun _ _ => by kernel_rfl) ?_ ?_ ?_ (fun W W' h n => h.up n) (fun W W' h O => h.onl (by omega) O)
  · intro W p hQ hC hqp hpl hR hgp hwp
    refine (finRead_any W q p g a c xs 95 hQ hqp hC hpl hR hb hgp hgq hc0 hc hn).mono ?_
    rintro e W' ⟨⟨hfits, rfl, G, Q, -, B, lG⟩ | ⟨hbad, hpan⟩, K⟩
    rotate_left
    · exact ⟨.inr ⟨by omega, hpan⟩, K⟩
    have hql2 := hQ.lt
    have sK : W.heap.size ≤ W'.heap.size := K.size
    refine ⟨.inl ⟨hfits, rfl, ⟨none, 0, 0, none, 0, 0, none, 0, 0, none, 0, 0, none, 0, 0, none, 0, 0, some ⟨G, 0, none⟩, 32, G, []⟩, [], fnF W.heap.size W.heap.size W.heap.size W.heap.size W.heap.size W.heap.size W.heap.size (G + 1), (show w.heap.size < W.heap.size by omega), (show q < W.heap.size by omega), ?_, ?_, rfl⟩, K⟩
    · show RwC W' q [.slice (some ⟨G, 0, none⟩) (tkB xs 0 32).length 32] 95
      rw [tkB_len]
      exact Q
    · exact ⟨(fun h => absurd h (by simp [rdFinished])), (fun h => absurd h (by simp [rdFinished])), nilT _ _, (fun h => absurd h (by simp [rdFinished])), (fun h => absurd h (by simp [rdFinished])), BRow.nil _ _, B.own0, (fun h => absurd h (by simp [rdFinished])), (fun h => absurd h (by simp [rdFinished])), (fun h => absurd h (by simp [rdFinished])), (fun h => absurd h (by simp [rdFinished])), (fun h => absurd h (by simp [rdFinished])), (fun h => absurd h (by simp [rdFinished])), (fun i h => absurd h (by simp [rdFinished])), (fun _ => ⟨(by simp only [fnF] <;> omega), (by simp only [fnF] <;> omega)⟩), ⟨(by simp only [fnF] <;> omega), (by simp only [fnF] <;> omega), (by simp only [fnF] <;> omega), (by simp only [fnF] <;> omega), (by simp only [fnF] <;> omega), (by simp only [fnF] <;> omega), (by simp only [fnF] <;> omega)⟩, ⟨(fun _ => rfl), (fun _ => rfl), (fun _ => rfl), (fun _ => rfl), (fun h => by cases h), fun i hi => absurd hi (by simp [rdFinished])⟩, Nat.zero_le _, rfl⟩
  · rintro W ⟨p, bs, F, h1, h2, h3, h4, -⟩
    rw [mfFinished]
    refine (finishedFault_any W q p.a12 (rdFinished xs).pf.length p.c12 isM.pfL (h3.cell 0)).mono ?_
    rintro e W' ⟨rfl, hw⟩
    exact ⟨rfl, by rw [hw]; exact Below.refl _ _⟩
  · rintro W ⟨p, bs, F, h1, h2, h3, h4, -⟩ f0
    have hM := h4.has
    exact finishedBody_any W q ⟨p.g12, p.a12, p.c12, (rdFinished xs).pf⟩ (lstR_of hM.pf h4.z.z12 isM.pfL) (h3.cell 0)
end Go.Proofs.YtdnkgmlidhepbaaGreat
