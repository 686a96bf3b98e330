import Derived.Test.YtcaljanahpdidaaGreatGV18
import Derived.Test.YtcaljanahpdidaaGreatGV20
import Derived.Test.YtcaljanahpdidaaGreatGV6
import Derived.Test.YtcaljanahpdidaaGreatGV8
namespace Go.Proofs.YtcaljanahpdidaaGreat
open Go Go.RowKit
def cAnswer : MQ → Msg → List Value := fun p m => [.int .i64 m.v, .slice p.a2 m.r.length p.c2, .slice p.a3 m.s.length p.c3, .bool m.rs]
def nAnswer : MQ → MQ := fun p => { mq0 with a2 := p.a2, c2 := p.c2, g2 := p.g2, a3 := p.a3, c3 := p.c3, g3 := p.g3 }
theorem mfAnswer (xs : List Int) : mfF (rdAnswer xs) = fpF (rdAnswer xs).v (rdAnswer xs).r.length (rdAnswer xs).s.length := by unfold mfF; simp [kfF, rdAnswer, answerM, msg0, sameM]
set_option maxRecDepth 100000 in
set_option maxHeartbeats 1000000 in
theorem rwAnswer_any (w : World) (q g : Nat) (a : Option Addr) (c : Nat) (xs : List Int) (hq : RwC w q [.int .i64 0, .slice none 0 0, .slice none 0 0, .bool false] 78) (hr : Rd w g a .u8 xs) (hb : Byt xs) (hgq : 0 < xs.length → g ≠ q) (hc0 : a = none → c = 0) (hc : xs.length ≤ c) (hn : xs.length ≤ 1048576) :
    Calls Tryz.prog 42 #[.iface 76 (.pointer (some ⟨q, 0, none⟩)), .slice a xs.length c] w fun e w' => e = .returned (.bool (decide (mfF (rdAnswer xs) = 0 ∧ bodF (rdAnswer xs) = xs))) ∧ (decide (mfF (rdAnswer xs) = 0 ∧ bodF (rdAnswer xs) = xs) = true → RK cAnswer nAnswer 78 w.heap.size q (rdAnswer xs) w') ∧ Tch [q] w w' := by
  have hfit : bodF (rdM 2 xs) = xs → 66 ≤ xs.length := fun h => fit_rd (k := 2) (by decide) h
  have eB := rwB_is (k := 2) (xs := xs) (fits := 66 ≤ xs.length) hfit
  have isM : IsM (rdAnswer xs) := isM_rd hb 2
  have hql := hq.lt
  rw [show rdM 2 xs = rdAnswer xs from rfl] at eB
  rw [← eB]
  refine readWhole_core w q g a c xs (bodF (rdAnswer xs)) (mfF (rdAnswer xs)) (66 ≤ xs.length) 76 78 [.int .i64 0, .slice none 0 0, .slice none 0 0, .bool false] 101 81 100 (RK cAnswer nAnswer 78 w.heap.size q (rdAnswer xs)) hq hr hb (byt_rd hb 2) hgq (fun _ _ => by kernel_rfl) (fun _ _ => by kernel_rfl) (fun _ _ => by kernel_rfl) (fun _ _ => by kernel_rfl) (fun _ _ => by kernel_rfl) (fun _ _ => by kernel_rfl) ?_ ?_ ?_ (fun W W' h n => h.up n) (fun W W' h O => h.onl (by omega) O)
  · intro W p hQ hC hqp hpl hR hgp hwp
    refine (ansRead_any W q p g a c xs 78 hQ hqp hC hpl hR hb hgp hgq hc0 hc hn).mono ?_
    rintro e W' ⟨⟨hfits, rfl, G1, G2, Q, B1, l1, B2, l2, o12⟩ | ⟨hbad, hpan⟩, K⟩
    rotate_left
    · exact ⟨.inr ⟨by omega, hpan⟩, K⟩
    have hql2 := hQ.lt
    have sK : W.heap.size ≤ W'.heap.size := K.size
    refine ⟨.inl ⟨hfits, rfl, ⟨some ⟨G1, 0, none⟩, 32, G1, some ⟨G2, 0, none⟩, 32, G2, none, 0, 0, none, 0, 0, none, 0, 0, none, 0, 0, none, 0, 0, []⟩, [], fnF W.heap.size G2 (G2 + 1) (G2 + 1) (G2 + 1) (G2 + 1) (G2 + 1) (G2 + 1), (show w.heap.size < W.heap.size by omega), (show q < W.heap.size by omega), ?_, ?_, rfl⟩, K⟩
    · show RwC W' q [.int .i64 (beN xs 0 1), .slice (some ⟨G1, 0, none⟩) (tkB xs 1 32).length 32, .slice (some ⟨G2, 0, none⟩) (tkB xs 33 32).length 32, .bool (beN xs 65 1 == 1)] 78
      rw [tkB_len, tkB_len]
      exact Q
    · exact ⟨B1.own0, B2.own0, nilT _ _, (fun h => absurd h (by simp [rdAnswer])), (fun h => absurd h (by simp [rdAnswer])), BRow.nil _ _, (fun h => absurd h (by simp [rdAnswer])), (fun _ => ⟨(by simp only [fnF] <;> omega), (by simp only [fnF] <;> omega)⟩), (fun _ => ⟨(by simp only [fnF] <;> omega), (by simp only [fnF] <;> omega)⟩), (fun h => absurd h (by simp [rdAnswer])), (fun h => absurd h (by simp [rdAnswer])), (fun h => absurd h (by simp [rdAnswer])), (fun h => absurd h (by simp [rdAnswer])), (fun i h => absurd h (by simp [rdAnswer])), (fun h => absurd h (by simp [rdAnswer])), ⟨(by simp only [fnF] <;> omega), (by simp only [fnF] <;> omega), (by simp only [fnF] <;> omega), (by simp only [fnF] <;> omega), (by simp only [fnF] <;> omega), (by simp only [fnF] <;> omega), (by simp only [fnF] <;> omega)⟩, ⟨(fun h => by cases h), (fun h => by cases h), (fun _ => rfl), (fun _ => rfl), (fun _ => rfl), fun i hi => absurd hi (by simp [rdAnswer])⟩, Nat.zero_le _, rfl⟩
  · rintro W ⟨p, bs, F, h1, h2, h3, h4, -⟩
    rw [mfAnswer]
    refine (firstFault_any W q (rdAnswer xs).v p.a2 p.a3 (rdAnswer xs).r.length (rdAnswer xs).s.length p.c2 p.c3 isM.rL isM.sL (h3.cell 0) (h3.cell 1) (h3.cell 2)).mono ?_
    rintro e W' ⟨rfl, hw⟩
    exact ⟨rfl, by rw [hw]; exact Below.refl _ _⟩
  · rintro W ⟨p, bs, F, h1, h2, h3, h4, -⟩ f0
    have hM := h4.has
    exact answerBody_any W q (rdAnswer xs).v ⟨p.g2, p.a2, p.c2, (rdAnswer xs).r⟩ ⟨p.g3, p.a3, p.c3, (rdAnswer xs).s⟩ (rdAnswer xs).rs (h3.cell 0) (h3.cell 1) (h3.cell 2) (h3.cell 3) (lstR_of hM.r h4.z.z2 isM.rL) (lstR_of hM.s h4.z.z3 isM.sL)
end Go.Proofs.YtcaljanahpdidaaGreat
namespace Go.Proofs.YtcaljanahpdidaaGreat
open Go Go.RowKit
def cTicket : MQ → Msg → List Value := fun p m => [.int .i64 m.ag, .int .i64 m.ea, .slice p.a2 m.r.length p.c2, .slice p.a6 m.ti.length p.c6]
def nTicket : MQ → MQ := fun p => { mq0 with a2 := p.a2, c2 := p.c2, g2 := p.g2, a6 := p.a6, c6 := p.c6, g6 := p.g6 }
theorem mfTicket (xs : List Int) : mfF (rdTicket xs) = tiF (rdTicket xs).ag (rdTicket xs).ea (rdTicket xs).r.length (rdTicket xs).ti.length := by unfold mfF; simp [kfF, rdTicket, ticketM, msg0, sameM]
set_option maxRecDepth 100000 in
set_option maxHeartbeats 1000000 in
theorem rwTicket_any (w : World) (q g : Nat) (a : Option Addr) (c : Nat) (xs : List Int) (hq : RwC w q [.int .i64 0, .int .i64 0, .slice none 0 0, .slice none 0 0] 81) (hr : Rd w g a .u8 xs) (hb : Byt xs) (hgq : 0 < xs.length → g ≠ q) (hc0 : a = none → c = 0) (hc : xs.length ≤ c) (hn : xs.length ≤ 1048576) :
    Calls Tryz.prog 42 #[.iface 79 (.pointer (some ⟨q, 0, none⟩)), .slice a xs.length c] w fun e w' => e = .returned (.bool (decide (mfF (rdTicket xs) = 0 ∧ bodF (rdTicket xs) = xs))) ∧ (decide (mfF (rdTicket xs) = 0 ∧ bodF (rdTicket xs) = xs) = true → RK cTicket nTicket 81 w.heap.size q (rdTicket xs) w') ∧ Tch [q] w w' := by
  have hfit : bodF (rdM 4 xs) = xs → 42 + (beN xs 40 2).toNat ≤ xs.length := fun h => fit_rd (k := 4) (by decide) h
  have eB := rwB_is (k := 4) (xs := xs) (fits := 42 + (beN xs 40 2).toNat ≤ xs.length) hfit
  have isM : IsM (rdTicket xs) := isM_rd hb 4
  have hql := hq.lt
  rw [show rdM 4 xs = rdTicket xs from rfl] at eB
  rw [← eB]
  refine readWhole_core w q g a c xs (bodF (rdTicket xs)) (mfF (rdTicket xs)) (42 + (beN xs 40 2).toNat ≤ xs.length) 79 81 [.int .i64 0, .int .i64 0, .slice none 0 0, .slice none 0 0] 105 104 103 (RK cTicket nTicket 81 w.heap.size q (rdTicket xs)) hq hr hb (byt_rd hb 4) hgq (fun _ _ => by kernel_rfl) (fun _ _ => by kernel_rfl) (fun _ _ => by kernel_rfl) (fun _ _ => by kernel_rfl) (fun _ _ => by kernel_rfl) (fun _ _ => by kernel_rfl) ?_ ?_ ?_ (fun W W' h n => h.up n) (fun W W' h O => h.onl (by omega) O)
  · intro W p hQ hC hqp hpl hR hgp hwp
    refine (tickRead_any W q p g a c xs 81 hQ hqp hC hpl hR hb hgp hgq hc0 hc hn).mono ?_
    rintro e W' ⟨⟨hfits, rfl, G1, G2, Q, B1, l1, B2, l2, o12⟩ | ⟨hbad, hpan⟩, K⟩
    rotate_left
    · exact ⟨.inr ⟨by omega, hpan⟩, K⟩
    have hql2 := hQ.lt
    have sK : W.heap.size ≤ W'.heap.size := K.size
    refine ⟨.inl ⟨hfits, rfl, ⟨some ⟨G1, 0, none⟩, 32, G1, none, 0, 0, none, 0, 0, some ⟨G2, 0, none⟩, (beN xs 40 2).toNat, G2, none, 0, 0, none, 0, 0, none, 0, 0, []⟩, [], fnF W.heap.size G2 G2 G2 (G2 + 1) (G2 + 1) (G2 + 1) (G2 + 1), (show w.heap.size < W.heap.size by omega), (show q < W.heap.size by omega), ?_, ?_, rfl⟩, K⟩
    · show RwC W' q [.int .i64 (beN xs 0 4), .int .i64 (beN xs 4 4), .slice (some ⟨G1, 0, none⟩) (tkB xs 8 32).length 32, .slice (some ⟨G2, 0, none⟩) (tkB xs 42 (beN xs 40 2).toNat).length (beN xs 40 2).toNat] 81
      rw [tkB_len, tkB_len]
      exact Q
    · exact ⟨B1.own0, (fun h => absurd h (by simp [rdTicket])), nilT _ _, B2.own0, (fun h => absurd h (by simp [rdTicket])), BRow.nil _ _, (fun h => absurd h (by simp [rdTicket])), (fun _ => ⟨(by simp only [fnF] <;> omega), (by simp only [fnF] <;> omega)⟩), (fun h => absurd h (by simp [rdTicket])), (fun h => absurd h (by simp [rdTicket])), (fun _ => ⟨(by simp only [fnF] <;> omega), (by simp only [fnF] <;> omega)⟩), (fun h => absurd h (by simp [rdTicket])), (fun h => absurd h (by simp [rdTicket])), (fun i h => absurd h (by simp [rdTicket])), (fun h => absurd h (by simp [rdTicket])), ⟨(by simp only [fnF] <;> omega), (by simp only [fnF] <;> omega), (by simp only [fnF] <;> omega), (by simp only [fnF] <;> omega), (by simp only [fnF] <;> omega), (by simp only [fnF] <;> omega), (by simp only [fnF] <;> omega)⟩, ⟨(fun h => by cases h), (fun _ => rfl), (fun h => by cases h), (fun _ => rfl), (fun _ => rfl), fun i hi => absurd hi (by simp [rdTicket])⟩, Nat.zero_le _, rfl⟩
  · rintro W ⟨p, bs, F, h1, h2, h3, h4, -⟩
    rw [mfTicket]
    refine (ticketFault_any W q (rdTicket xs).ag (rdTicket xs).ea p.a2 p.a6 (rdTicket xs).r.length (rdTicket xs).ti.length p.c2 p.c6 isM.rL isM.tiL (h3.cell 0) (h3.cell 1) (h3.cell 2) (h3.cell 3)).mono ?_
    rintro e W' ⟨rfl, hw⟩
    exact ⟨rfl, by rw [hw]; exact Below.refl _ _⟩
  · rintro W ⟨p, bs, F, h1, h2, h3, h4, -⟩ f0
    have hM := h4.has
    exact ticketBody_any W q (rdTicket xs).ag (rdTicket xs).ea ⟨p.g2, p.a2, p.c2, (rdTicket xs).r⟩ ⟨p.g6, p.a6, p.c6, (rdTicket xs).ti⟩ (h3.cell 0) (h3.cell 1) (h3.cell 2) (h3.cell 3) (lstR_of hM.r h4.z.z2 isM.rL) (lstR_of hM.ti h4.z.z6 isM.tiL)
end Go.Proofs.YtcaljanahpdidaaGreat
namespace Go.Proofs.YtcaljanahpdidaaGreat
open Go Go.RowKit
def cEnd : MQ → Msg → List Value := fun _ _ => []
def nEnd : MQ → MQ := fun _ => mq0
theorem mfEnd (xs : List Int) : mfF (rdEnd xs) = 0 := by unfold mfF; simp [kfF, rdEnd, endM, msg0, sameM]
theorem endRead_any (w : World) (u v : Value) : Calls Tryz.prog 109 #[u, v] w fun e w' => e = .returned (.tuple #[]) ∧ w' = w := by
  go_enter Tryz.func109, Tryz.ntmps109
  go_wp2
  go_end0
  exact ⟨rfl, rfl⟩
set_option maxRecDepth 100000 in
set_option maxHeartbeats 1000000 in
theorem rwEnd_any (w : World) (q g : Nat) (a : Option Addr) (c : Nat) (xs : List Int) (hq : RwC w q [] 84) (hr : Rd w g a .u8 xs) (hb : Byt xs) (hgq : 0 < xs.length → g ≠ q) (_hc0 : a = none → c = 0) (_hc : xs.length ≤ c) (_hn : xs.length ≤ 1048576) :
    Calls Tryz.prog 42 #[.iface 82 (.pointer (some ⟨q, 0, none⟩)), .slice a xs.length c] w fun e w' => e = .returned (.bool (decide (mfF (rdEnd xs) = 0 ∧ bodF (rdEnd xs) = xs))) ∧ (decide (mfF (rdEnd xs) = 0 ∧ bodF (rdEnd xs) = xs) = true → RK cEnd nEnd 84 w.heap.size q (rdEnd xs) w') ∧ Tch [q] w w' := by
  have hfit : bodF (rdM 5 xs) = xs → True := fun h => fit_rd (k := 5) (by decide) h
  have eB := rwB_is (k := 5) (xs := xs) (fits := True) hfit
  have isM : IsM (rdEnd xs) := isM_rd hb 5
  have hql := hq.lt
  rw [show rdM 5 xs = rdEnd xs from rfl] at eB
  rw [← eB]
  refine readWhole_core w q g a c xs (bodF (rdEnd xs)) (mfF (rdEnd xs)) (True) 82 84 [] 109 108 107 (RK cEnd nEnd 84 w.heap.size q (rdEnd xs)) hq hr hb (byt_rd hb 5) hgq (fun _ _ => by kernel_rfl) (fun _ _ => by kernel_rfl) (fun _ _ => by kernel_rfl) (fun _ _ => by kernel_rfl) (fun _ _ => by kernel_rfl) (fun _ _ => by kernel_rfl) ?_ ?_ ?_ (fun W W' h n => h.up n) (fun W W' h O => h.onl (by omega) O)
  · intro W p hQ hC hqp hpl hR hgp hwp
    refine (endRead_any W (.pointer (some ⟨q, 0, none⟩)) (.pointer (some ⟨p, 0, none⟩))).mono ?_
    rintro e W' ⟨rfl, hw⟩
    have hw := hw.symm
    subst hw
    have hql2 := hQ.lt
    refine ⟨.inl ⟨trivial, rfl, ?_⟩, Tch.of_below (Below.refl _ _)⟩
    exact ⟨mq0, [], fun _ => W.heap.size, (show w.heap.size < W.heap.size by omega), (show q < W.heap.size by omega), hQ, ⟨(fun h => absurd h (by simp [rdEnd])), (fun h => absurd h (by simp [rdEnd])), nilT _ _, (fun h => absurd h (by simp [rdEnd])), (fun h => absurd h (by simp [rdEnd])), BRow.nil _ _, (fun h => absurd h (by simp [rdEnd])), (fun h => absurd h (by simp [rdEnd])), (fun h => absurd h (by simp [rdEnd])), (fun h => absurd h (by simp [rdEnd])), (fun h => absurd h (by simp [rdEnd])), (fun h => absurd h (by simp [rdEnd])), (fun h => absurd h (by simp [rdEnd])), (fun i h => absurd h (by simp [rdEnd])), (fun h => absurd h (by simp [rdEnd])), ⟨Nat.le_refl _, Nat.le_refl _, Nat.le_refl _, Nat.le_refl _, Nat.le_refl _, Nat.le_refl _, Nat.le_refl _⟩, ⟨(fun _ => rfl), (fun _ => rfl), (fun _ => rfl), (fun _ => rfl), (fun _ => rfl), fun i hi => absurd hi (by simp [rdEnd])⟩, Nat.zero_le _, rfl⟩, rfl⟩
  · rintro W ⟨p, bs, F, h1, h2, h3, h4, -⟩
    rw [mfEnd]
    refine (endFault_any W (.pointer (some ⟨q, 0, none⟩))).mono ?_
    rintro e W' ⟨rfl, hw⟩
    exact ⟨rfl, by rw [hw]; exact Below.refl _ _⟩
  · rintro W ⟨p, bs, F, h1, h2, h3, h4, -⟩ f0
    exact endBody_any W _
end Go.Proofs.YtcaljanahpdidaaGreat
namespace Go.Proofs.YtcaljanahpdidaaGreat
open Go Go.RowKit
def cExtras : MQ → Msg → List Value := fun p m => [.slice p.a5 m.pr.length p.c5, .int .i64 m.ea]
def nExtras : MQ → MQ := fun p => { mq0 with a5 := p.a5, c5 := p.c5, g5 := p.g5 }
theorem mfExtras (xs : List Int) : mfF (rdExtras xs) = exF (rdExtras xs).pr (rdExtras xs).ea := by unfold mfF; simp [kfF, rdExtras, extrasM, msg0, sameM]
set_option maxRecDepth 100000 in
set_option maxHeartbeats 1000000 in
theorem rwExtras_any (w : World) (q g : Nat) (a : Option Addr) (c : Nat) (xs : List Int) (hq : RwC w q [.slice none 0 0, .int .i64 0] 87) (hr : Rd w g a .u8 xs) (hb : Byt xs) (hgq : 0 < xs.length → g ≠ q) (hc0 : a = none → c = 0) (hc : xs.length ≤ c) (hn : xs.length ≤ 1048576) :
    Calls Tryz.prog 42 #[.iface 85 (.pointer (some ⟨q, 0, none⟩)), .slice a xs.length c] w fun e w' => e = .returned (.bool (decide (mfF (rdExtras xs) = 0 ∧ bodF (rdExtras xs) = xs))) ∧ (decide (mfF (rdExtras xs) = 0 ∧ bodF (rdExtras xs) = xs) = true → RK cExtras nExtras 87 w.heap.size q (rdExtras xs) w') ∧ Tch [q] w w' := by
  have hfit : bodF (rdM 8 xs) = xs → 0 < xs.length ∧ ppT xs 1 (xs.getD 0 0).toNat + 1 ≤ xs.length := fun h => fit_rd (k := 8) (by decide) h
  have eB := rwB_is (k := 8) (xs := xs) (fits := 0 < xs.length ∧ ppT xs 1 (xs.getD 0 0).toNat + 1 ≤ xs.length) hfit
  have isM : IsM (rdExtras xs) := isM_rd hb 8
  have hql := hq.lt
  rw [show rdM 8 xs = rdExtras xs from rfl] at eB
  rw [← eB]
  refine readWhole_core w q g a c xs (bodF (rdExtras xs)) (mfF (rdExtras xs)) (0 < xs.length ∧ ppT xs 1 (xs.getD 0 0).toNat + 1 ≤ xs.length) 85 87 [.slice none 0 0, .int .i64 0] 113 112 111 (RK cExtras nExtras 87 w.heap.size q (rdExtras xs)) hq hr hb (byt_rd hb 8) hgq (fun _ _ => by kernel_rfl) (fun _ _ => by kernel_rfl) (fun _ _ => by kernel_rfl) (fun _ _ => by kernel_rfl) (fun _ _ => by kernel_rfl) (fun _ _ => by kernel_rfl) ?_ ?_ ?_ (fun W W' h n => h.up n) (fun W W' h O => h.onl (by omega) O)
  · intro W p hQ hC hqp hpl hR hgp hwp
    refine (extRead_any W q p g a c xs 87 hQ hqp hC hpl hR hb hgp hgq hc0 hc hn).mono ?_
    rintro e W' ⟨⟨hf1, hf2, rfl, v, Q, RT⟩ | ⟨hbad, hpan⟩, K⟩
    rotate_left
    · exact ⟨.inr ⟨hbad, hpan⟩, K⟩
    have hql2 := hQ.lt
    have sK : W.heap.size ≤ W'.heap.size := K.size
    obtain ⟨ra, rl, rc, hrv⟩ : ∃ ra rl rc, v = .slice ra rl rc := by
      rcases RT.2 with ⟨h', _⟩ | ⟨g', cap, cur, h', _⟩
      · exact ⟨_, _, _, h'⟩
      · exact ⟨_, _, _, h'⟩
    subst hrv
    obtain ⟨hl, hcc, hzz, -⟩ := RowT.rdT RT
    subst hl
    refine ⟨.inl ⟨⟨hf1, hf2⟩, rfl, ⟨none, 0, 0, none, 0, 0, ra, rc, adB ra, none, 0, 0, none, 0, 0, none, 0, 0, none, 0, 0, []⟩, [], fnF W.heap.size W.heap.size W.heap.size W'.heap.size W'.heap.size W'.heap.size W'.heap.size W'.heap.size, (show w.heap.size < W.heap.size by omega), (show q < W.heap.size by omega), Q, ?_, rfl⟩, K⟩
    exact ⟨(fun h => absurd h (by simp [rdExtras])), (fun h => absurd h (by simp [rdExtras])), RT, (fun h => absurd h (by simp [rdExtras])), (fun h => absurd h (by simp [rdExtras])), BRow.nil _ _, (fun h => absurd h (by simp [rdExtras])), (fun h => absurd h (by simp [rdExtras])), (fun h => absurd h (by simp [rdExtras])), (fun h0 => ⟨(rowT_place RT h0).1, (rowT_place RT h0).2.2.2⟩), (fun h => absurd h (by simp [rdExtras])), (fun h => absurd h (by simp [rdExtras])), (fun h => absurd h (by simp [rdExtras])), (fun i h => absurd h (by simp [rdExtras])), (fun h => absurd h (by simp [rdExtras])), ⟨(by simp only [fnF] <;> omega), (by simp only [fnF] <;> omega), (by simp only [fnF] <;> omega), (by simp only [fnF] <;> omega), (by simp only [fnF] <;> omega), (by simp only [fnF] <;> omega), (by simp only [fnF] <;> omega)⟩, ⟨(fun _ => rfl), (fun _ => rfl), (fun _ => rfl), (fun _ => rfl), (fun _ => rfl), fun i hi => absurd hi (by simp [rdExtras])⟩, hcc, rfl⟩
  · rintro W ⟨p, bs, F, h1, h2, h3, h4, -⟩
    rw [mfExtras]
    have hM := h4.has
    refine (extrasFault_any W q p.a5 p.c5 p.g5 (rdExtras xs).pr (rdExtras xs).ea hM.pr hM.prC isM.prL isM.prZ (h3.cell 0) (h3.cell 1)).mono ?_
    rintro e W' ⟨rfl, hw⟩
    exact ⟨rfl, by rw [hw]; exact Below.refl _ _⟩
  · rintro W ⟨p, bs, F, h1, h2, h3, h4, -⟩ f0
    have hM := h4.has
    rw [mfExtras] at f0
    exact extrasBody_any W q p.g5 p.a5 p.c5 (rdExtras xs).pr (rdExtras xs).ea (h3.cell 0) (h3.cell 1) (txsR_of hM.pr (ex_pr f0) isM.prZ)
end Go.Proofs.YtcaljanahpdidaaGreat
namespace Go.Proofs.YtcaljanahpdidaaGreat
open Go Go.RowKit
def cCerts : MQ → Msg → List Value := fun p m => [.slice p.a11 m.ce.length p.c11]
def nCerts : MQ → MQ := fun p => { mq0 with a11 := p.a11, c11 := p.c11, g11 := p.g11, ps := p.ps }
theorem mfCerts (xs : List Int) : mfF (rdCerts xs) = ceF (rdCerts xs).ce := by unfold mfF; simp [kfF, rdCerts, certsM, msg0, sameM]
set_option maxRecDepth 100000 in
set_option maxHeartbeats 1000000 in
theorem rwCerts_any (w : World) (q g : Nat) (a : Option Addr) (c : Nat) (xs : List Int) (hq : RwC w q [.slice none 0 0] 90) (hr : Rd w g a .u8 xs) (hb : Byt xs) (hgq : 0 < xs.length → g ≠ q) (hc0 : a = none → c = 0) (hc : xs.length ≤ c) (hn : xs.length ≤ 1048576) :
    Calls Tryz.prog 42 #[.iface 88 (.pointer (some ⟨q, 0, none⟩)), .slice a xs.length c] w fun e w' => e = .returned (.bool (decide (mfF (rdCerts xs) = 0 ∧ bodF (rdCerts xs) = xs))) ∧ (decide (mfF (rdCerts xs) = 0 ∧ bodF (rdCerts xs) = xs) = true → RK cCerts nCerts 90 w.heap.size q (rdCerts xs) w') ∧ Tch [q] w w' := by
  have hfit : bodF (rdM 11 xs) = xs → 0 < xs.length ∧ ppL xs 1 (xs.getD 0 0).toNat ≤ xs.length := fun h => fit_rd (k := 11) (by decide) h
  have eB := rwB_is (k := 11) (xs := xs) (fits := 0 < xs.length ∧ ppL xs 1 (xs.getD 0 0).toNat ≤ xs.length) hfit
  have isM : IsM (rdCerts xs) := isM_rd hb 11
  have hql := hq.lt
  rw [show rdM 11 xs = rdCerts xs from rfl] at eB
  rw [← eB]
  refine readWhole_core w q g a c xs (bodF (rdCerts xs)) (mfF (rdCerts xs)) (0 < xs.length ∧ ppL xs 1 (xs.getD 0 0).toNat ≤ xs.length) 88 90 [.slice none 0 0] 117 116 115 (RK cCerts nCerts 90 w.heap.size q (rdCerts xs)) hq hr hb (byt_rd hb 11) hgq (fun _ _ => by kernel_rfl) (fun _ _ => by kernel_rfl) (fun _ _ => by kernel_rfl) (fun _ _ => by kernel_rfl) (fun _ _ => by kernel_rfl) (fun _ _ => by kernel_rfl) ?_ ?_ ?_ (fun W W' h n => h.up n) (fun W W' h O => h.onl (by omega) O)
  · intro W p hQ hC hqp hpl hR hgp hwp
    refine (certsRead_any W q p g a c xs 90 hQ hqp hC hpl hR hb hgp hgq hc0 hc hn).mono ?_
    rintro e W' ⟨⟨hf1, hf2, rfl, v, bs, Q, BR⟩ | ⟨hbad, hpan⟩, K⟩
    rotate_left
    · exact ⟨.inr ⟨hbad, hpan⟩, K⟩
    have hql2 := hQ.lt
    have sK : W.heap.size ≤ W'.heap.size := K.size
    obtain ⟨ra, rc, hrv, hz0⟩ := BR.slice
    subst hrv
    refine ⟨.inl ⟨⟨hf1, hf2⟩, rfl, ⟨none, 0, 0, none, 0, 0, none, 0, 0, none, 0, 0, none, 0, 0, ra, rc, adB ra, none, 0, 0, plbs bs⟩, bs, fnF W.heap.size W.heap.size W.heap.size W.heap.size W.heap.size W.heap.size W'.heap.size W'.heap.size, (show w.heap.size < W.heap.size by omega), (show q < W.heap.size by omega), Q, ?_, rfl⟩, K⟩
    exact ⟨(fun h => absurd h (by simp [rdCerts])), (fun h => absurd h (by simp [rdCerts])), nilT _ _, (fun h => absurd h (by simp [rdCerts])), (fun h => absurd h (by simp [rdCerts])), BR, (fun h => absurd h (by simp [rdCerts])), (fun h => absurd h (by simp [rdCerts])), (fun h => absurd h (by simp [rdCerts])), (fun h => absurd h (by simp [rdCerts])), (fun h => absurd h (by simp [rdCerts])), (fun h => absurd h (by simp [rdCerts])), (fun h0 => bRow_place BR h0), (fun i hi h0 => BR.lt hi h0), (fun h => absurd h (by simp [rdCerts])), ⟨(by simp only [fnF] <;> omega), (by simp only [fnF] <;> omega), (by simp only [fnF] <;> omega), (by simp only [fnF] <;> omega), (by simp only [fnF] <;> omega), (by simp only [fnF] <;> omega), (by simp only [fnF] <;> omega)⟩, (certsZ (B := W.heap.size) (va := ra) (vc := rc) (n := (xs.getD 0 0).toNat) (by rw [clT_len] at BR; exact BR) rfl), Nat.zero_le _, rfl⟩
  · rintro W ⟨p, bs, F, h1, h2, h3, h4, -⟩
    rw [mfCerts]
    have hM := h4.has
    exact (certsFault_any W q p.g11 p.a11 p.c11 (rdCerts xs).ce p.ps hM.ce isM.ceL isM.ceZ (h3.cell 0)).mono (by rintro e W' ⟨rfl, n⟩; exact ⟨rfl, n⟩)
  · rintro W ⟨p, bs, F, h1, h2, h3, h4, -⟩ f0
    have hM := h4.has
    rw [mfCerts] at f0
    exact certsBody_any W q p.g11 p.a11 p.c11 (rdCerts xs).ce p.ps (h3.cell 0) (ctsR_of hM.ce (ce_n f0) isM.ceZ h4.z.zc)
end Go.Proofs.YtcaljanahpdidaaGreat
namespace Go.Proofs.YtcaljanahpdidaaGreat
open Go Go.RowKit
def cProof : MQ → Msg → List Value := fun p m => [.slice p.a12 m.pf.length p.c12]
def nProof : MQ → MQ := fun p => { mq0 with a12 := p.a12, c12 := p.c12, g12 := p.g12 }
theorem mfProof (xs : List Int) : mfF (rdProof xs) = pfF 64 (rdProof xs).pf.length := by unfold mfF; simp [kfF, rdProof, proofM, msg0, sameM]
set_option maxRecDepth 100000 in
set_option maxHeartbeats 1000000 in
theorem rwProof_any (w : World) (q g : Nat) (a : Option Addr) (c : Nat) (xs : List Int) (hq : RwC w q [.slice none 0 0] 93) (hr : Rd w g a .u8 xs) (hb : Byt xs) (hgq : 0 < xs.length → g ≠ q) (hc0 : a = none → c = 0) (hc : xs.length ≤ c) (hn : xs.length ≤ 1048576) :
    Calls Tryz.prog 42 #[.iface 91 (.pointer (some ⟨q, 0, none⟩)), .slice a xs.length c] w fun e w' => e = .returned (.bool (decide (mfF (rdProof xs) = 0 ∧ bodF (rdProof xs) = xs))) ∧ (decide (mfF (rdProof xs) = 0 ∧ bodF (rdProof xs) = xs) = true → RK cProof nProof 93 w.heap.size q (rdProof xs) w') ∧ Tch [q] w w' := by
  have hfit : bodF (rdM 15 xs) = xs → 64 ≤ xs.length := fun h => fit_rd (k := 15) (by decide) h
  have eB := rwB_is (k := 15) (xs := xs) (fits := 64 ≤ xs.length) hfit
  have isM : IsM (rdProof xs) := isM_rd hb 15
  have hql := hq.lt
  rw [show rdM 15 xs = rdProof xs from rfl] at eB
  rw [← eB]
  refine readWhole_core w q g a c xs (bodF (rdProof xs)) (mfF (rdProof xs)) (64 ≤ xs.length) 91 93 [.slice none 0 0] 124 123 122 (RK cProof nProof 93 w.heap.size q (rdProof xs)) hq hr hb (byt_rd hb 15) hgq (fun _ _ => by kernel_rfl) (fun _ _ => by kernel_rfl) (fun _ _ => by kernel_rfl) (fun _ _ => by kernel_rfl) (fun _ _ => by kernel_rfl) (fun _ _ => by kernel_rfl) ?_ ?_ ?_ (fun W W' h n => h.up n) (fun W W' h O => h.onl (by omega) O)
  · intro W p hQ hC hqp hpl hR hgp hwp
    refine (proofRead_any W q p g a c xs 93 hQ hqp hC hR hc0 hc hn).mono ?_
    rintro e W' ⟨⟨hfits, rfl, Q, B⟩ | ⟨hbad, hpan⟩, K⟩
    rotate_left
    · exact ⟨.inr ⟨by omega, hpan⟩, K⟩
    have hql2 := hQ.lt
    have sK : W.heap.size ≤ W'.heap.size := K.size
    have B : Blk W' W.heap.size .u8 (tkB xs 0 64) := by rw [← tkB_take xs 0 64 (by omega)]; exact B
    refine ⟨.inl ⟨hfits, rfl, ⟨none, 0, 0, none, 0, 0, none, 0, 0, none, 0, 0, none, 0, 0, none, 0, 0, some ⟨W.heap.size, 0, none⟩, 64, W.heap.size, []⟩, [], fnF W.heap.size W.heap.size W.heap.size W.heap.size W.heap.size W.heap.size W.heap.size (W.heap.size + 1), (show w.heap.size < W.heap.size by omega), (show q < W.heap.size by omega), ?_, ?_, rfl⟩, K⟩
    · show RwC W' q [.slice (some ⟨W.heap.size, 0, none⟩) (tkB xs 0 64).length 64] 93
      rw [tkB_len]
      exact Q
    · exact ⟨(fun h => absurd h (by simp [rdProof])), (fun h => absurd h (by simp [rdProof])), nilT _ _, (fun h => absurd h (by simp [rdProof])), (fun h => absurd h (by simp [rdProof])), BRow.nil _ _, B.own0, (fun h => absurd h (by simp [rdProof])), (fun h => absurd h (by simp [rdProof])), (fun h => absurd h (by simp [rdProof])), (fun h => absurd h (by simp [rdProof])), (fun h => absurd h (by simp [rdProof])), (fun h => absurd h (by simp [rdProof])), (fun i h => absurd h (by simp [rdProof])), (fun _ => ⟨(by simp only [fnF] <;> omega), (by simp only [fnF] <;> omega)⟩), ⟨(by simp only [fnF] <;> omega), (by simp only [fnF] <;> omega), (by simp only [fnF] <;> omega), (by simp only [fnF] <;> omega), (by simp only [fnF] <;> omega), (by simp only [fnF] <;> omega), (by simp only [fnF] <;> omega)⟩, ⟨(fun _ => rfl), (fun _ => rfl), (fun _ => rfl), (fun _ => rfl), (fun h => by cases h), fun i hi => absurd hi (by simp [rdProof])⟩, Nat.zero_le _, rfl⟩
  · rintro W ⟨p, bs, F, h1, h2, h3, h4, -⟩
    rw [mfProof]
    refine (proofFault_any W q p.a12 (rdProof xs).pf.length p.c12 isM.pfL (h3.cell 0)).mono ?_
    rintro e W' ⟨rfl, hw⟩
    exact ⟨rfl, by rw [hw]; exact Below.refl _ _⟩
  · rintro W ⟨p, bs, F, h1, h2, h3, h4, -⟩ f0
    have hM := h4.has
    exact proofBody_any W q ⟨p.g12, p.a12, p.c12, (rdProof xs).pf⟩ (lstR_of hM.pf h4.z.z12 isM.pfL) (h3.cell 0)
end Go.Proofs.YtcaljanahpdidaaGreat
namespace Go.Proofs.YtcaljanahpdidaaGreat
open Go Go.RowKit
def cFinished : MQ → Msg → List Value := fun p m => [.slice p.a12 m.pf.length p.c12]
def nFinished : MQ → MQ := fun p => { mq0 with a12 := p.a12, c12 := p.c12, g12 := p.g12 }
theorem mfFinished (xs : List Int) : mfF (rdFinished xs) = pfF 32 (rdFinished xs).pf.length := by unfold mfF; simp [kfF, rdFinished, finishedM, msg0, sameM]
set_option maxRecDepth 100000 in
set_option maxHeartbeats 1000000 in
theorem rwFinished_any (w : World) (q g : Nat) (a : Option Addr) (c : Nat) (xs : List Int) (hq : RwC w q [.slice none 0 0] 95) (hr : Rd w g a .u8 xs) (hb : Byt xs) (hgq : 0 < xs.length → g ≠ q) (hc0 : a = none → c = 0) (hc : xs.length ≤ c) (hn : xs.length ≤ 1048576) :
    Calls Tryz.prog 42 #[.iface 94 (.pointer (some ⟨q, 0, none⟩)), .slice a xs.length c] w fun e w' => e = .returned (.bool (decide (mfF (rdFinished xs) = 0 ∧ bodF (rdFinished xs) = xs))) ∧ (decide (mfF (rdFinished xs) = 0 ∧ bodF (rdFinished xs) = xs) = true → RK cFinished nFinished 95 w.heap.size q (rdFinished xs) w') ∧ Tch [q] w w' := by
  have hfit : bodF (rdM 20 xs) = xs → 32 ≤ xs.length := fun h => fit_rd (k := 20) (by decide) h
  have eB := rwB_is (k := 20) (xs := xs) (fits := 32 ≤ xs.length) hfit
  have isM : IsM (rdFinished xs) := isM_rd hb 20
  have hql := hq.lt
  rw [show rdM 20 xs = rdFinished xs from rfl] at eB
  rw [← eB]
  refine readWhole_core w q g a c xs (bodF (rdFinished xs)) (mfF (rdFinished xs)) (32 ≤ xs.length) 94 95 [.slice none 0 0] 128 127 126 (RK cFinished nFinished 95 w.heap.size q (rdFinished xs)) hq hr hb (byt_rd hb 20) hgq (fun _ _ => by kernel_rfl) (fun _ _ => by kernel_rfl) (fun _ _ => by kernel_rfl) (fun _ _ => by kernel_rfl) (fun _ _ => by kernel_rfl) (fun _ _ => by kernel_rfl) ?_ ?_ ?_ (fun W W' h n => h.up n) (fun W W' h O => h.onl (by omega) O)
  · intro W p hQ hC hqp hpl hR hgp hwp
    refine (finRead_any W q p g a c xs 95 hQ hqp hC hpl hR hb hgp hgq hc0 hc hn).mono ?_
    rintro e W' ⟨⟨hfits, rfl, G, Q, -, B, lG⟩ | ⟨hbad, hpan⟩, K⟩
    rotate_left
    · exact ⟨.inr ⟨by omega, hpan⟩, K⟩
    have hql2 := hQ.lt
    have sK : W.heap.size ≤ W'.heap.size := K.size
    refine ⟨.inl ⟨hfits, rfl, ⟨none, 0, 0, none, 0, 0, none, 0, 0, none, 0, 0, none, 0, 0, none, 0, 0, some ⟨G, 0, none⟩, 32, G, []⟩, [], fnF W.heap.size W.heap.size W.heap.size W.heap.size W.heap.size W.heap.size W.heap.size (G + 1), (show w.heap.size < W.heap.size by omega), (show q < W.heap.size by omega), ?_, ?_, rfl⟩, K⟩
    · show RwC W' q [.slice (some ⟨G, 0, none⟩) (tkB xs 0 32).length 32] 95
      rw [tkB_len]
      exact Q
    · exact ⟨(fun h => absurd h (by simp [rdFinished])), (fun h => absurd h (by simp [rdFinished])), nilT _ _, (fun h => absurd h (by simp [rdFinished])), (fun h => absurd h (by simp [rdFinished])), BRow.nil _ _, B.own0, (fun h => absurd h (by simp [rdFinished])), (fun h => absurd h (by simp [rdFinished])), (fun h => absurd h (by simp [rdFinished])), (fun h => absurd h (by simp [rdFinished])), (fun h => absurd h (by simp [rdFinished])), (fun h => absurd h (by simp [rdFinished])), (fun i h => absurd h (by simp [rdFinished])), (fun _ => ⟨(by simp only [fnF] <;> omega), (by simp only [fnF] <;> omega)⟩), ⟨(by simp only [fnF] <;> omega), (by simp only [fnF] <;> omega), (by simp only [fnF] <;> omega), (by simp only [fnF] <;> omega), (by simp only [fnF] <;> omega), (by simp only [fnF] <;> omega), (by simp only [fnF] <;> omega)⟩, ⟨(fun _ => rfl), (fun _ => rfl), (fun _ => rfl), (fun _ => rfl), (fun h => by cases h), fun i hi => absurd hi (by simp [rdFinished])⟩, Nat.zero_le _, rfl⟩
  · rintro W ⟨p, bs, F, h1, h2, h3, h4, -⟩
    rw [mfFinished]
    refine (finishedFault_any W q p.a12 (rdFinished xs).pf.length p.c12 isM.pfL (h3.cell 0)).mono ?_
    rintro e W' ⟨rfl, hw⟩
    exact ⟨rfl, by rw [hw]; exact Below.refl _ _⟩
  · rintro W ⟨p, bs, F, h1, h2, h3, h4, -⟩ f0
    have hM := h4.has
    exact finishedBody_any W q ⟨p.g12, p.a12, p.c12, (rdFinished xs).pf⟩ (lstR_of hM.pf h4.z.z12 isM.pfL) (h3.cell 0)
end Go.Proofs.YtcaljanahpdidaaGreat
namespace Go.Proofs.YtcaljanahpdidaaGreat
open Go Go.RowKit
def cUpdate : MQ → Msg → List Value := fun _ m => [.int .i64 m.ea]
def nUpdate : MQ → MQ := fun _ => mq0
theorem mfUpdate (xs : List Int) : mfF (rdUpdate xs) = upF (rdUpdate xs).ea := by unfold mfF; simp [kfF, rdUpdate, updateM, msg0, sameM]
set_option maxRecDepth 100000 in
set_option maxHeartbeats 1000000 in
theorem rwUpdate_any (w : World) (q g : Nat) (a : Option Addr) (c : Nat) (xs : List Int) (hq : RwC w q [.int .i64 0] 98) (hr : Rd w g a .u8 xs) (hb : Byt xs) (hgq : 0 < xs.length → g ≠ q) (hc0 : a = none → c = 0) (hc : xs.length ≤ c) (hn : xs.length ≤ 1048576) :
    Calls Tryz.prog 42 #[.iface 96 (.pointer (some ⟨q, 0, none⟩)), .slice a xs.length c] w fun e w' => e = .returned (.bool (decide (mfF (rdUpdate xs) = 0 ∧ bodF (rdUpdate xs) = xs))) ∧ (decide (mfF (rdUpdate xs) = 0 ∧ bodF (rdUpdate xs) = xs) = true → RK cUpdate nUpdate 98 w.heap.size q (rdUpdate xs) w') ∧ Tch [q] w w' := by
  have hfit : bodF (rdM 24 xs) = xs → 1 ≤ xs.length := fun h => fit_rd (k := 24) (by decide) h
  have eB := rwB_is (k := 24) (xs := xs) (fits := 1 ≤ xs.length) hfit
  have isM : IsM (rdUpdate xs) := isM_rd hb 24
  have hql := hq.lt
  rw [show rdM 24 xs = rdUpdate xs from rfl] at eB
  rw [← eB]
  refine readWhole_core w q g a c xs (bodF (rdUpdate xs)) (mfF (rdUpdate xs)) (1 ≤ xs.length) 96 98 [.int .i64 0] 132 131 130 (RK cUpdate nUpdate 98 w.heap.size q (rdUpdate xs)) hq hr hb (byt_rd hb 24) hgq (fun _ _ => by kernel_rfl) (fun _ _ => by kernel_rfl) (fun _ _ => by kernel_rfl) (fun _ _ => by kernel_rfl) (fun _ _ => by kernel_rfl) (fun _ _ => by kernel_rfl) ?_ ?_ ?_ (fun W W' h n => h.up n) (fun W W' h O => h.onl (by omega) O)
  · intro W p hQ hC hqp hpl hR hgp hwp
    refine (updRead_any W q p g a c xs 98 hQ hqp hC hpl hR hb hgp hgq hc0 hc hn).mono ?_
    rintro e W' ⟨⟨hfits, rfl, Q, -⟩ | ⟨hbad, hpan⟩, K⟩
    rotate_left
    · exact ⟨.inr ⟨by omega, hpan⟩, K⟩
    have hql2 := hQ.lt
    have sK : W.heap.size ≤ W'.heap.size := K.size
    exact ⟨.inl ⟨hfits, rfl, mq0, [], fun _ => W.heap.size, (show w.heap.size < W.heap.size by omega), (show q < W.heap.size by omega), Q, ⟨(fun h => absurd h (by simp [rdUpdate])), (fun h => absurd h (by simp [rdUpdate])), nilT _ _, (fun h => absurd h (by simp [rdUpdate])), (fun h => absurd h (by simp [rdUpdate])), BRow.nil _ _, (fun h => absurd h (by simp [rdUpdate])), (fun h => absurd h (by simp [rdUpdate])), (fun h => absurd h (by simp [rdUpdate])), (fun h => absurd h (by simp [rdUpdate])), (fun h => absurd h (by simp [rdUpdate])), (fun h => absurd h (by simp [rdUpdate])), (fun h => absurd h (by simp [rdUpdate])), (fun i h => absurd h (by simp [rdUpdate])), (fun h => absurd h (by simp [rdUpdate])), ⟨Nat.le_refl _, Nat.le_refl _, Nat.le_refl _, Nat.le_refl _, Nat.le_refl _, Nat.le_refl _, Nat.le_refl _⟩, ⟨(fun _ => rfl), (fun _ => rfl), (fun _ => rfl), (fun _ => rfl), (fun _ => rfl), fun i hi => absurd hi (by simp [rdUpdate])⟩, Nat.zero_le _, rfl⟩, rfl⟩, K⟩
  · rintro W ⟨p, bs, F, h1, h2, h3, h4, -⟩
    rw [mfUpdate]
    refine (updateFault_any W q (rdUpdate xs).ea (h3.cell 0)).mono ?_
    rintro e W' ⟨rfl, hw⟩
    exact ⟨rfl, by rw [hw]; exact Below.refl _ _⟩
  · rintro W ⟨p, bs, F, h1, h2, h3, h4, -⟩ f0
    exact updateBody_any W q (rdUpdate xs).ea (h3.cell 0)
end Go.Proofs.YtcaljanahpdidaaGreat
namespace Go.Proofs.YtcaljanahpdidaaGreat
open Go Go.RowKit
set_option maxRecDepth 20000 in
theorem decode_any (w : World) (mq g : Nat) (a : Option Addr) (c : Nat) (xs : List Int) (at_ : Int) (hm : w.heap[mq]? = some (.map regE 9)) (hr : Rd w g a .u8 xs) (hb : Byt xs) (hz : a = none → c = 0) (hc : xs.length ≤ c) (hx : xs.length ≤ 1048576) :
    Calls Tryz.prog 22 #[.map (some mq), .slice a xs.length c, .int .i64 at_] w fun e w' => DcP w xs at_ e w' := by
  by_cases ho : at_ < 0 ∨ (xs.length : Int) < at_
  · exact decode_out w mq a c xs at_ ho
  obtain ⟨i, rfl⟩ := Int.eq_ofNat_of_zero_le (show 0 ≤ at_ by omega)
  have hi : i ≤ xs.length := by omega
  by_cases hp : dmP (xs.drop i) = 0
  rotate_left
  · exact decode_pre w mq g a c xs i hi hm hr hb hz hc hx hp
  have hk := (dmP_zero hp).2.1
  have : (xs.drop i).getD 0 0 = 1 ∨ (xs.drop i).getD 0 0 = 2 ∨ (xs.drop i).getD 0 0 = 4 ∨ (xs.drop i).getD 0 0 = 5 ∨ (xs.drop i).getD 0 0 = 8 ∨ (xs.drop i).getD 0 0 = 11 ∨ (xs.drop i).getD 0 0 = 15 ∨ (xs.drop i).getD 0 0 = 20 ∨ (xs.drop i).getD 0 0 = 24 := by simpa only [kinds, List.mem_cons, List.not_mem_nil, or_false] using hk
  rcases this with e | e | e | e | e | e | e | e | e
  · exact decode_body w mq g a c xs i hi hm hr hb hz hc hx hp 1 e 32 71 75 [.int .i64 0, .slice none 0 0, .slice none 0 0, .string ⟨#[]⟩, .slice none 0 0, .slice none 0 0, .int .i64 0, .int .i64 0, .slice none 0 0] cHello nHello rfl (fun _ _ => by kernel_rfl) newHello_any (fun w q g a c ys h1 h2 h3 h4 h5 h6 h7 => rwHello_any w q g a c ys h1 h2 h3 h4 h5 h6 h7) (fun W q p ys hn h => by rw [← hn] at h ⊢; exact plainHello_any (h := h))
  · exact decode_body w mq g a c xs i hi hm hr hb hz hc hx hp 2 e 33 76 78 [.int .i64 0, .slice none 0 0, .slice none 0 0, .bool false] cAnswer nAnswer rfl (fun _ _ => by kernel_rfl) newAnswer_any (fun w q g a c ys h1 h2 h3 h4 h5 h6 h7 => rwAnswer_any w q g a c ys h1 h2 h3 h4 h5 h6 h7) (fun W q p ys hn h => by rw [← hn] at h ⊢; exact plainAnswer_any (h := h))
  · exact decode_body w mq g a c xs i hi hm hr hb hz hc hx hp 4 e 34 79 81 [.int .i64 0, .int .i64 0, .slice none 0 0, .slice none 0 0] cTicket nTicket rfl (fun _ _ => by kernel_rfl) newTicket_any (fun w q g a c ys h1 h2 h3 h4 h5 h6 h7 => rwTicket_any w q g a c ys h1 h2 h3 h4 h5 h6 h7) (fun W q p ys hn h => by rw [← hn] at h ⊢; exact plainTicket_any (h := h))
  · exact decode_body w mq g a c xs i hi hm hr hb hz hc hx hp 5 e 35 82 84 [] cEnd nEnd rfl (fun _ _ => by kernel_rfl) newEnd_any (fun w q g a c ys h1 h2 h3 h4 h5 h6 h7 => rwEnd_any w q g a c ys h1 h2 h3 h4 h5 h6 h7) (fun W q p ys hn _ => by rw [← hn]; exact plainEnd_any W (.pointer (some ⟨q, 0, none⟩)))
  · exact decode_body w mq g a c xs i hi hm hr hb hz hc hx hp 8 e 36 85 87 [.slice none 0 0, .int .i64 0] cExtras nExtras rfl (fun _ _ => by kernel_rfl) newExtras_any (fun w q g a c ys h1 h2 h3 h4 h5 h6 h7 => rwExtras_any w q g a c ys h1 h2 h3 h4 h5 h6 h7) (fun W q p ys hn h => by rw [← hn] at h ⊢; exact plainExtras_any (h := h))
  · exact decode_body w mq g a c xs i hi hm hr hb hz hc hx hp 11 e 37 88 90 [.slice none 0 0] cCerts nCerts rfl (fun _ _ => by kernel_rfl) newCerts_any (fun w q g a c ys h1 h2 h3 h4 h5 h6 h7 => rwCerts_any w q g a c ys h1 h2 h3 h4 h5 h6 h7) (fun W q p ys hn h => by rw [← hn] at h ⊢; exact plainCerts_any (h := h))
  · exact decode_body w mq g a c xs i hi hm hr hb hz hc hx hp 15 e 38 91 93 [.slice none 0 0] cProof nProof rfl (fun _ _ => by kernel_rfl) newProof_any (fun w q g a c ys h1 h2 h3 h4 h5 h6 h7 => rwProof_any w q g a c ys h1 h2 h3 h4 h5 h6 h7) (fun W q p ys hn h => by rw [← hn] at h ⊢; exact plainProof_any (h := h))
  · exact decode_body w mq g a c xs i hi hm hr hb hz hc hx hp 20 e 39 94 95 [.slice none 0 0] cFinished nFinished rfl (fun _ _ => by kernel_rfl) newFinished_any (fun w q g a c ys h1 h2 h3 h4 h5 h6 h7 => rwFinished_any w q g a c ys h1 h2 h3 h4 h5 h6 h7) (fun W q p ys hn h => by rw [← hn] at h ⊢; exact plainFinished_any (h := h))
  · exact decode_body w mq g a c xs i hi hm hr hb hz hc hx hp 24 e 40 96 98 [.int .i64 0] cUpdate nUpdate rfl (fun _ _ => by kernel_rfl) newUpdate_any (fun w q g a c ys h1 h2 h3 h4 h5 h6 h7 => rwUpdate_any w q g a c ys h1 h2 h3 h4 h5 h6 h7) (fun W q p ys hn h => by rw [← hn] at h ⊢; exact plainUpdate_any (h := h))
end Go.Proofs.YtcaljanahpdidaaGreat
namespace Go.Proofs.YtcaljanahpdidaaGreat
open Go Go.RowKit
end Go.Proofs.YtcaljanahpdidaaGreat
namespace Go.Proofs.YtcaljanahpdidaaGreat
open Go Go.RowKit
theorem RwC.partD {w : World} {q : Nat} {cs : List Value} {t : TypeId} (h : RwC w q cs t) (o : Nat) (l : List Value) (hl : (cs.drop o).take l.length = l) : w.rangeAt q o l := fun j v hj => by
  rw [h.cell (o + j)]
  rw [← hl] at hj
  rw [List.getElem?_take] at hj
  split at hj
  · rw [List.getElem?_drop] at hj
    exact hj
  · cases hj
end Go.Proofs.YtcaljanahpdidaaGreat
namespace Go.Proofs.YtcaljanahpdidaaGreat
open Go Go.RowKit
structure AnsC (W : World) (F : Nat → Nat) (p : MQ) (m : Msg) (bs : List Plc) : Prop where
  r : Own W p.g2 p.a2 .u8 m.r
  s : Own W p.g3 p.a3 .u8 m.s
  pr : 0 < m.pr.length → RowT W (F 2) (.slice p.a5 m.pr.length p.c5) m.pr
  ti : Own W p.g6 p.a6 .u8 m.ti
  bi : Own W p.g9 p.a9 .u8 m.bi
  ce : 0 < m.ce.length → BRow W (F 5) (.slice p.a11 m.ce.length p.c11) m.ce bs
  pf : Own W p.g12 p.a12 .u8 m.pf
  b2 : 0 < m.r.length → F 0 ≤ p.g2 ∧ p.g2 < F 1
  b3 : 0 < m.s.length → F 1 ≤ p.g3 ∧ p.g3 < F 2
  b5 : 0 < m.pr.length → p.a5 = some ⟨p.g5, 0, none⟩ ∧ p.g5 < F 3
  b6 : 0 < m.ti.length → F 3 ≤ p.g6 ∧ p.g6 < F 4
  b9 : 0 < m.bi.length → F 4 ≤ p.g9 ∧ p.g9 < F 5
  b11 : 0 < m.ce.length → p.a11 = some ⟨p.g11, 0, none⟩ ∧ p.g11 < F 6
  bl : ∀ i, i < m.ce.length → 0 < (m.ce.getD i []).length → (bs.getD i plc0).q < F 6
  b12 : 0 < m.pf.length → F 6 ≤ p.g12 ∧ p.g12 < F 7
  mono : F 0 ≤ F 1 ∧ F 1 ≤ F 2 ∧ F 2 ≤ F 3 ∧ F 3 ≤ F 4 ∧ F 4 ≤ F 5 ∧ F 5 ≤ F 6 ∧ F 6 ≤ F 7
  z : HasZ p m
  prC : m.pr.length ≤ p.c5
  ps : p.ps = plbs bs
theorem AnsM.c {W : World} {F : Nat → Nat} {p : MQ} {m : Msg} {bs : List Plc} (h : AnsM W F p m bs) : AnsC W F p m bs :=
  ⟨h.r, h.s, fun _ => h.pr, h.ti, h.bi, fun _ => h.ce, h.pf, h.b2, h.b3, h.b5, h.b6, h.b9, h.b11, h.bl, h.b12, h.mono, h.z, h.prC, h.ps⟩
theorem BRow.ofS {w w' : World} {B : Nat} {v : Value} {its : List (List Int)} {bs : List Plc} (h : BRow w B v its bs) (ho : ∀ k, v.ownBlock = some k → w'.heap[k]? = w.heap[k]?) (hb : ∀ i, i < its.length → 0 < (its.getD i []).length → w'.heap[(bs.getD i plc0).q]? = w.heap[(bs.getD i plc0).q]?) : BRow w' B v its bs := by
  refine ⟨⟨h.o.1, ?_⟩, h.l, fun i hi => (h.b i hi).of fun h0 => hb i hi h0, h.h, h.d⟩
  rcases h.o.2 with h' | ⟨g, cap, cur, rfl, hbg, hg, hnc, hcm, hcs, ht⟩
  · exact .inl h'
  · exact .inr ⟨g, cap, cur, rfl, hbg, by rw [ho g rfl]; exact hg, hnc, hcm, hcs, ht⟩
theorem AnsC.of {W W' : World} {F : Nat → Nat} {p : MQ} {m : Msg} {bs : List Plc} (h : AnsC W F p m bs) (hb : ∀ k, k < W.heap.size → F 0 ≤ k → k < F 7 → W'.heap[k]? = W.heap[k]?) : AnsC W' F p m bs := by
  have mo := h.mono
  refine ⟨own_ch h.r fun h0 => hb _ (h.r.rd.lt h0) (h.b2 h0).1 (by have := (h.b2 h0).2; omega), own_ch h.s fun h0 => hb _ (h.s.rd.lt h0) (by have := (h.b3 h0).1; omega) (by have := (h.b3 h0).2; omega), fun h0 => ?_, own_ch h.ti fun h0 => hb _ (h.ti.rd.lt h0) (by have := (h.b6 h0).1; omega) (by have := (h.b6 h0).2; omega), own_ch h.bi fun h0 => hb _ (h.bi.rd.lt h0) (by have := (h.b9 h0).1; omega) (by have := (h.b9 h0).2; omega), fun h0 => ?_, own_ch h.pf fun h0 => hb _ (h.pf.rd.lt h0) (by have := (h.b12 h0).1; omega) (by have := (h.b12 h0).2; omega), h.b2, h.b3, h.b5, h.b6, h.b9, h.b11, h.bl, h.b12, h.mono, h.z, h.prC, h.ps⟩
  · have R := h.pr h0
    refine rowT_ch R fun k hk => hb k (World.ownsRow.lt R k hk).2 (by have := (World.ownsRow.lt R k hk).1; omega) ?_
    have e := h.b5 h0
    rw [e.1] at hk
    have : p.g5 = k := Option.some.inj hk
    omega
  · have R := h.ce h0
    refine R.ofS (fun k hk => hb k (World.ownsRow.lt R.o k hk).2 (by have := (World.ownsRow.lt R.o k hk).1; omega) ?_) (fun i hi h1 => hb _ (R.lt hi h1) (by have := (R.h i hi h1).1; omega) (by have := h.bl i hi h1; omega))
    have e := h.b11 h0
    rw [e.1] at hk
    have : p.g11 = k := Option.some.inj hk
    omega
theorem AnsC.up {W W' : World} {F : Nat → Nat} {p : MQ} {m : Msg} {bs : List Plc} (h : AnsC W F p m bs) (n : Below W.heap.size W W') : AnsC W' F p m bs := h.of fun k hk _ _ => n.block k hk
theorem AnsC.has {W : World} {F : Nat → Nat} {p : MQ} {m : Msg} {bs : List Plc} (h : AnsC W F p m bs) : HasM W p m := by
  refine ⟨h.r.rd, h.s.rd, fun h0 => ?_, h.ti.rd, h.bi.rd, ⟨fun h0 => ?_, fun i hi => ?_⟩, h.pf.rd, h.prC⟩
  · obtain ⟨e, -⟩ := h.b5 h0
    obtain ⟨g, c, e', -, -, hc, -⟩ := (h.pr h0).cells h0
    have eg : p.g5 = g := by rw [e] at e'; exact Option.some.inj (congrArg Value.ownBlock e')
    exact ⟨0, e, fun i hi => by rw [Nat.zero_add, eg]; exact hc i hi⟩
  · obtain ⟨e, -⟩ := h.b11 h0
    obtain ⟨g, c, e', -, -, -, hc⟩ := (h.ce h0).cells h0
    have eg : p.g11 = g := by rw [e] at e'; exact Option.some.inj (congrArg Value.ownBlock e')
    exact ⟨0, e, fun i hi => by rw [Nat.zero_add, eg, h.ps, plbs_get (by rw [(h.ce h0).l]; exact hi)]; exact hc i hi⟩
  · have h0 : 0 < m.ce.length := by omega
    rw [h.ps, plbs_get (by rw [(h.ce h0).l]; exact hi)]
    exact ((h.ce h0).b i hi).o.rd
structure El where
  p : MQ
  bs : List Plc
  F : Nat → Nat
def el0 : El := ⟨mq0, [], fun _ => 0⟩
def mgCs : List Msg → List El → List Value
  | m :: ms, e :: es => (mgV e.p m).toList ++ mgCs ms es
  | _, _ => []
theorem mgV_len (p : MQ) (m : Msg) : (mgV p m).toList.length = 13 := rfl
theorem mgCs_snoc : ∀ (ms : List Msg) (es : List El) (m : Msg) (e : El), es.length = ms.length → mgCs (ms ++ [m]) (es ++ [e]) = mgCs ms es ++ (mgV e.p m).toList
  | [], [], m, e, _ => by simp [mgCs]
  | [], _ :: _, _, _, h => by simp at h
  | _ :: _, [], _, _, h => by simp at h
  | y :: ms, q :: es, m, e, h => by
    show (mgV q.p y).toList ++ mgCs (ms ++ [m]) (es ++ [e]) = ((mgV q.p y).toList ++ mgCs ms es) ++ (mgV e.p m).toList
    rw [mgCs_snoc ms es m e (by simpa using h), List.append_assoc]
theorem mgCs_at : ∀ (ms : List Msg) (es : List El) (i j : Nat), es.length = ms.length → i < ms.length → j < 13 → (mgCs ms es)[i * 13 + j]? = (mgV (es.getD i el0).p (ms.getD i msg0)).toList[j]?
  | [], _, i, _, _, hi, _ => by simp at hi
  | _ :: _, [], _, _, h, _, _ => by simp at h
  | y :: ms, q :: es, 0, j, h, hi, hj => by
    show ((mgV q.p y).toList ++ mgCs ms es)[0 * 13 + j]? = _
    rw [List.getElem?_append_left (by rw [mgV_len]; omega), Nat.zero_mul, Nat.zero_add]
    rfl
  | y :: ms, q :: es, i + 1, j, h, hi, hj => by
    show ((mgV q.p y).toList ++ mgCs ms es)[(i + 1) * 13 + j]? = _
    rw [List.getElem?_append_right (by rw [mgV_len]; omega), mgV_len, show (i + 1) * 13 + j - 13 = i * 13 + j by omega, mgCs_at ms es i j (by simpa using h) (by simpa using hi) hj]
    simp
structure MRow (w : World) (B : Nat) (v : Value) (ms : List Msg) (es : List El) : Prop where
  o : w.ownsRow B 28 13 v ms.length (mgCs ms es)
  l : es.length = ms.length
  b : ∀ i, i < ms.length → AnsC w (es.getD i el0).F (es.getD i el0).p (ms.getD i msg0) (es.getD i el0).bs
  h : ∀ i, i < ms.length → B ≤ (es.getD i el0).F 0 ∧ ∀ g, v.ownBlock = some g → g < (es.getD i el0).F 0 ∨ (es.getD i el0).F 7 ≤ g
  d : ∀ i j, i < j → j < ms.length → (es.getD i el0).F 7 ≤ (es.getD j el0).F 0
  t : ∀ i, i < ms.length → (es.getD i el0).F 7 ≤ w.heap.size
theorem MRow.nil (w : World) (B : Nat) : MRow w B (.slice none 0 0) [] [] :=
  ⟨⟨rfl, .inl ⟨rfl, rfl⟩⟩, rfl, fun i h => absurd h (by simp), fun i h => absurd h (by simp), fun i j _ h => absurd h (by simp), fun i h => absurd h (by simp)⟩
theorem MRow.of {w w' : World} {B : Nat} {v : Value} {ms : List Msg} {es : List El} (h : MRow w B v ms es) (hs : w.heap.size ≤ w'.heap.size) (hb : ∀ k, k < w.heap.size → B ≤ k → w'.heap[k]? = w.heap[k]?) : MRow w' B v ms es := by
  refine ⟨⟨h.o.1, ?_⟩, h.l, fun i hi => (h.b i hi).of fun k hk h0 _ => hb k hk (by have := (h.h i hi).1; omega), h.h, h.d, fun i hi => Nat.le_trans (h.t i hi) hs⟩
  rcases h.o.2 with h' | ⟨g, cap, cur, rfl, hbg, hg, hnc, hcm, hcs, ht⟩
  · exact .inl h'
  · exact .inr ⟨g, cap, cur, rfl, hbg, by rw [hb g ((Array.getElem?_eq_some_iff.1 hg).1) hbg]; exact hg, hnc, hcm, hcs, ht⟩
end Go.Proofs.YtcaljanahpdidaaGreat
