import Derived.Test.YtmmbkkfjiaoeiaaGreatGV26
import Derived.Test.YtmmbkkfjiaoeiaaGreatGV28
import Derived.Test.YtmmbkkfjiaoeiaaGreatGV6
import Derived.Test.YtmmbkkfjiaoeiaaGreatGV8
import Derived.Test.YtmmbkkfjiaoeiaaGreatGVxMbM
import Derived.Test.YtmmbkkfjiaoeiaaGreatGV16
import Derived.Test.YtmmbkkfjiaoeiaaGreatGV21
import Derived.Test.YtmmbkkfjiaoeiaaGreatGV22
import Derived.Deep.DeepCutAuto
namespace Go.Proofs.YtmmbkkfjiaoeiaaGreat
open Go Go.RowKit
def cExtras : MQ → Msg → List Value := fun p m => [.slice p.a5 m.pr.length p.c5, .int .i64 m.ea]
def nExtras : MQ → MQ := fun p => { mq0 with a5 := p.a5, c5 := p.c5, g5 := p.g5 }
theorem mfExtras (xs : List Int) : mfF (rdExtras xs) = exF (rdExtras xs).pr (rdExtras xs).ea := by unfold mfF; simp [kfF, rdExtras, extrasM, msg0, sameM]
set_option maxRecDepth 100000 in
set_option maxHeartbeats 1000000 in
theorem rwExtras_any (w : World) (q g : Nat) (a : Option Addr) (c : Nat) (xs : List Int) (hq : RwC w q [.slice none 0 0, .int .i64 0] 88) (hr : Rd w g a .u8 xs) (hb : Byt xs) (hgq : 0 < xs.length → g ≠ q) (hc0 : a = none → c = 0) (hc : xs.length ≤ c) (hn : xs.length ≤ 1048576) :
    Calls Tryz.prog 49 #[.iface 86 (.pointer (some ⟨q, 0, none⟩)), .slice a xs.length c] w fun e w' => e = .returned (.bool (decide (mfF (rdExtras xs) = 0 ∧ bodF (rdExtras xs) = xs))) ∧ (decide (mfF (rdExtras xs) = 0 ∧ bodF (rdExtras xs) = xs) = true → RK cExtras nExtras 88 w.heap.size q (rdExtras xs) w') ∧ Tch [q] w w' := by
  have hfit : bodF (rdM 8 xs) = xs → 0 < xs.length ∧ ppT xs 1 (xs.getD 0 0).toNat + 1 ≤ xs.length := fun h => fit_rd (k := 8) (by decide) h
  have eB := rwB_is (k := 8) (xs := xs) (fits := 0 < xs.length ∧ ppT xs 1 (xs.getD 0 0).toNat + 1 ≤ xs.length) hfit
  have isM : IsM (rdExtras xs) := isM_rd hb 8
  have hql := hq.lt
  rw [show rdM 8 xs = rdExtras xs from rfl] at eB
  rw [← eB]
  refine readWhole_core w q g a c xs (bodF (rdExtras xs)) (mfF (rdExtras xs)) (0 < xs.length ∧ ppT xs 1 (xs.getD 0 0).toNat + 1 ≤ xs.length) 86 88 [.slice none 0 0, .int .i64 0] 127 126 125 (RK cExtras nExtras 88 w.heap.size q (rdExtras xs)) hq hr hb (byt_rd hb 8) hgq (fun _ _ => by kernel_rfl) (fun _ _ => by kernel_rfl) (fun _ _ => by kernel_rfl) (fun _ _ => by kernel_rfl) (fun _ _ => by kernel_rfl) (fun _ _ => by kernel_rfl) ?_ ?_ ?_ (fun W W' h n => h.up n) (fun W W' h O => h.onl (by omega) O)
  · intro W p hQ hC hqp hpl hR hgp hwp
    refine (extRead_any W q p g a c xs 88 hQ hqp hC hpl hR hb hgp hgq hc0 hc hn).mono ?_
    rintro e W' ⟨⟨hf1, hf2, rfl, v, Q, RT⟩ | ⟨hbad, hpan⟩, K⟩
    rotate_left
    · exact ⟨.inr ⟨hbad, hpan⟩, K⟩
    have hql2 := hQ.lt
    have sK : W.heap.size ≤ W'.heap.size := K.size
    obtain ⟨ra, rl, rc, hrv⟩ : ∃ ra rl rc, v = .slice ra rl rc := by
      rcases RT.2 with ⟨h', _⟩ | ⟨g', cap, cur, h', _⟩
      · exact ⟨_, _, _, h'⟩
      · exact ⟨_, _, _, h'⟩
    subst hrv
    obtain ⟨hl, hcc, hzz, -⟩ := RowT.rdT RT
    subst hl
    refine ⟨.inl ⟨⟨hf1, hf2⟩, rfl, ⟨none, 0, 0, none, 0, 0, ra, rc, adB ra, none, 0, 0, none, 0, 0, none, 0, 0, none, 0, 0, []⟩, [], fnF W.heap.size W.heap.size W.heap.size W'.heap.size W'.heap.size W'.heap.size W'.heap.size W'.heap.size, (show w.heap.size < W.heap.size by omega), (show q < W.heap.size by omega), Q, ?_, rfl⟩, K⟩
    exact ⟨(fun h => absurd h (by simp [rdExtras])), (fun h => absurd h (by simp [rdExtras])), RT, (fun h => absurd h (by simp [rdExtras])), (fun h => absurd h (by simp [rdExtras])), BRow.nil _ _, (fun h => absurd h (by simp [rdExtras])), (fun h => absurd h (by simp [rdExtras])), (fun h => absurd h (by simp [rdExtras])), (fun h0 => ⟨(rowT_place RT h0).1, (rowT_place RT h0).2.2.2⟩), (fun h => absurd h (by simp [rdExtras])), (fun h => absurd h (by simp [rdExtras])), (fun h => absurd h (by simp [rdExtras])), (fun i h => absurd h (by simp [rdExtras])), (fun h => absurd h (by simp [rdExtras])), ⟨(by simp only [fnF] <;> omega), (by simp only [fnF] <;> omega), (by simp only [fnF] <;> omega), (by simp only [fnF] <;> omega), (by simp only [fnF] <;> omega), (by simp only [fnF] <;> omega), (by simp only [fnF] <;> omega)⟩, ⟨(fun _ => rfl), (fun _ => rfl), (fun _ => rfl), (fun _ => rfl), (fun _ => rfl), fun i hi => absurd hi (by simp [rdExtras])⟩, hcc, rfl⟩
  · rintro W ⟨p, bs, F, h1, h2, h3, h4, -⟩
    rw [mfExtras]
    have hM := h4.has
    refine (extrasFault_any W q p.a5 p.c5 p.g5 (rdExtras xs).pr (rdExtras xs).ea hM.pr hM.prC isM.prL isM.prZ (h3.cell 0) (h3.cell 1)).mono ?_
    rintro e W' ⟨rfl, hw⟩
    exact ⟨rfl, by rw [hw]; exact Below.refl _ _⟩
  · rintro W ⟨p, bs, F, h1, h2, h3, h4, -⟩ f0
    have hM := h4.has
    rw [mfExtras] at f0
    exact extrasBody_any W q p.g5 p.a5 p.c5 (rdExtras xs).pr (rdExtras xs).ea (h3.cell 0) (h3.cell 1) (txsR_of hM.pr (ex_pr f0) isM.prZ)
end Go.Proofs.YtmmbkkfjiaoeiaaGreat
namespace Go.Proofs.YtmmbkkfjiaoeiaaGreat
open Go Go.RowKit
def cCerts : MQ → Msg → List Value := fun p m => [.slice p.a11 m.ce.length p.c11]
def nCerts : MQ → MQ := fun p => { mq0 with a11 := p.a11, c11 := p.c11, g11 := p.g11, ps := p.ps }
theorem mfCerts (xs : List Int) : mfF (rdCerts xs) = ceF (rdCerts xs).ce := by unfold mfF; simp [kfF, rdCerts, certsM, msg0, sameM]
set_option maxRecDepth 100000 in
set_option maxHeartbeats 1000000 in
theorem rwCerts_any (w : World) (q g : Nat) (a : Option Addr) (c : Nat) (xs : List Int) (hq : RwC w q [.slice none 0 0] 91) (hr : Rd w g a .u8 xs) (hb : Byt xs) (hgq : 0 < xs.length → g ≠ q) (hc0 : a = none → c = 0) (hc : xs.length ≤ c) (hn : xs.length ≤ 1048576) :
    Calls Tryz.prog 49 #[.iface 89 (.pointer (some ⟨q, 0, none⟩)), .slice a xs.length c] w fun e w' => e = .returned (.bool (decide (mfF (rdCerts xs) = 0 ∧ bodF (rdCerts xs) = xs))) ∧ (decide (mfF (rdCerts xs) = 0 ∧ bodF (rdCerts xs) = xs) = true → RK cCerts nCerts 91 w.heap.size q (rdCerts xs) w') ∧ Tch [q] w w' := by
  have hfit : bodF (rdM 11 xs) = xs → 0 < xs.length ∧ ppL xs 1 (xs.getD 0 0).toNat ≤ xs.length := fun h => fit_rd (k := 11) (by decide) h
  have eB := rwB_is (k := 11) (xs := xs) (fits := 0 < xs.length ∧ ppL xs 1 (xs.getD 0 0).toNat ≤ xs.length) hfit
  have isM : IsM (rdCerts xs) := isM_rd hb 11
  have hql := hq.lt
  rw [show rdM 11 xs = rdCerts xs from rfl] at eB
  rw [← eB]
  refine readWhole_core w q g a c xs (bodF (rdCerts xs)) (mfF (rdCerts xs)) (0 < xs.length ∧ ppL xs 1 (xs.getD 0 0).toNat ≤ xs.length) 89 91 [.slice none 0 0] 131 130 129 (RK cCerts nCerts 91 w.heap.size q (rdCerts xs)) hq hr hb (byt_rd hb 11) hgq (fun _ _ => by kernel_rfl) (fun _ _ => by kernel_rfl) (fun _ _ => by kernel_rfl) (fun _ _ => by kernel_rfl) (fun _ _ => by kernel_rfl) (fun _ _ => by kernel_rfl) ?_ ?_ ?_ (fun W W' h n => h.up n) (fun W W' h O => h.onl (by omega) O)
  · intro W p hQ hC hqp hpl hR hgp hwp
    refine (certsRead_any W q p g a c xs 91 hQ hqp hC hpl hR hb hgp hgq hc0 hc hn).mono ?_
    rintro e W' ⟨⟨hf1, hf2, rfl, v, bs, Q, BR⟩ | ⟨hbad, hpan⟩, K⟩
    rotate_left
    · exact ⟨.inr ⟨hbad, hpan⟩, K⟩
    have hql2 := hQ.lt
    have sK : W.heap.size ≤ W'.heap.size := K.size
    obtain ⟨ra, rc, hrv, hz0⟩ := BR.slice
    subst hrv
    refine ⟨.inl ⟨⟨hf1, hf2⟩, rfl, ⟨none, 0, 0, none, 0, 0, none, 0, 0, none, 0, 0, none, 0, 0, ra, rc, adB ra, none, 0, 0, plbs bs⟩, bs, fnF W.heap.size W.heap.size W.heap.size W.heap.size W.heap.size W.heap.size W'.heap.size W'.heap.size, (show w.heap.size < W.heap.size by omega), (show q < W.heap.size by omega), Q, ?_, rfl⟩, K⟩
    exact ⟨(fun h => absurd h (by simp [rdCerts])), (fun h => absurd h (by simp [rdCerts])), nilT _ _, (fun h => absurd h (by simp [rdCerts])), (fun h => absurd h (by simp [rdCerts])), BR, (fun h => absurd h (by simp [rdCerts])), (fun h => absurd h (by simp [rdCerts])), (fun h => absurd h (by simp [rdCerts])), (fun h => absurd h (by simp [rdCerts])), (fun h => absurd h (by simp [rdCerts])), (fun h => absurd h (by simp [rdCerts])), (fun h0 => bRow_place BR h0), (fun i hi h0 => BR.lt hi h0), (fun h => absurd h (by simp [rdCerts])), ⟨(by simp only [fnF] <;> omega), (by simp only [fnF] <;> omega), (by simp only [fnF] <;> omega), (by simp only [fnF] <;> omega), (by simp only [fnF] <;> omega), (by simp only [fnF] <;> omega), (by simp only [fnF] <;> omega)⟩, (certsZ (B := W.heap.size) (va := ra) (vc := rc) (n := (xs.getD 0 0).toNat) (by rw [clT_len] at BR; exact BR) rfl), Nat.zero_le _, rfl⟩
  · rintro W ⟨p, bs, F, h1, h2, h3, h4, -⟩
    rw [mfCerts]
    have hM := h4.has
    exact (certsFault_any W q p.g11 p.a11 p.c11 (rdCerts xs).ce p.ps hM.ce isM.ceL isM.ceZ (h3.cell 0)).mono (by rintro e W' ⟨rfl, n⟩; exact ⟨rfl, n⟩)
  · rintro W ⟨p, bs, F, h1, h2, h3, h4, -⟩ f0
    have hM := h4.has
    rw [mfCerts] at f0
    exact certsBody_any W q p.g11 p.a11 p.c11 (rdCerts xs).ce p.ps (h3.cell 0) (ctsR_of hM.ce (ce_n f0) isM.ceZ h4.z.zc)
end Go.Proofs.YtmmbkkfjiaoeiaaGreat
namespace Go.Proofs.YtmmbkkfjiaoeiaaGreat
open Go Go.RowKit
def cProof : MQ → Msg → List Value := fun p m => [.slice p.a12 m.pf.length p.c12]
def nProof : MQ → MQ := fun p => { mq0 with a12 := p.a12, c12 := p.c12, g12 := p.g12 }
theorem mfProof (xs : List Int) : mfF (rdProof xs) = pfF 64 (rdProof xs).pf.length := by unfold mfF; simp [kfF, rdProof, proofM, msg0, sameM]
set_option maxRecDepth 100000 in
set_option maxHeartbeats 1000000 in
theorem rwProof_any (w : World) (q g : Nat) (a : Option Addr) (c : Nat) (xs : List Int) (hq : RwC w q [.slice none 0 0] 94) (hr : Rd w g a .u8 xs) (hb : Byt xs) (hgq : 0 < xs.length → g ≠ q) (hc0 : a = none → c = 0) (hc : xs.length ≤ c) (hn : xs.length ≤ 1048576) :
    Calls Tryz.prog 49 #[.iface 92 (.pointer (some ⟨q, 0, none⟩)), .slice a xs.length c] w fun e w' => e = .returned (.bool (decide (mfF (rdProof xs) = 0 ∧ bodF (rdProof xs) = xs))) ∧ (decide (mfF (rdProof xs) = 0 ∧ bodF (rdProof xs) = xs) = true → RK cProof nProof 94 w.heap.size q (rdProof xs) w') ∧ Tch [q] w w' := by
  have hfit : bodF (rdM 15 xs) = xs → 64 ≤ xs.length := fun h => fit_rd (k := 15) (by decide) h
  have eB := rwB_is (k := 15) (xs := xs) (fits := 64 ≤ xs.length) hfit
  have isM : IsM (rdProof xs) := isM_rd hb 15
  have hql := hq.lt
  rw [show rdM 15 xs = rdProof xs from rfl] at eB
  rw [← eB]
  refine readWhole_core w q g a c xs (bodF (rdProof xs)) (mfF (rdProof xs)) (64 ≤ xs.length) 92 94 [.slice none 0 0] 138 137 136 (RK cProof nProof 94 w.heap.size q (rdProof xs)) hq hr hb (byt_rd hb 15) hgq (fun _ _ => by kernel_rfl) (fun _ _ => by kernel_rfl) (fun _ _ => by kernel_rfl) (fun _ _ => by kernel_rfl) (fun _ _ => by kernel_rfl) (fun _ _ => by kernel_rfl) ?_ ?_ ?_ (fun W W' h n => h.up n) (fun W W' h O => h.onl (by omega) O)
  · intro W p hQ hC hqp hpl hR hgp hwp
    refine (proofRead_any W q p g a c xs 94 hQ hqp hC hR hc0 hc hn).mono ?_
    rintro e W' ⟨⟨hfits, rfl, Q, B⟩ | ⟨hbad, hpan⟩, K⟩
    rotate_left
    · exact ⟨.inr ⟨by omega, hpan⟩, K⟩
    have hql2 := hQ.lt
    have sK : W.heap.size ≤ W'.heap.size := K.size
    have B : Blk W' W.heap.size .u8 (tkB xs 0 64) := by rw [← tkB_take xs 0 64 (by omega)]; exact B
    refine ⟨.inl ⟨hfits, rfl, ⟨none, 0, 0, none, 0, 0, none, 0, 0, none, 0, 0, none, 0, 0, none, 0, 0, some ⟨W.heap.size, 0, none⟩, 64, W.heap.size, []⟩, [], fnF W.heap.size W.heap.size W.heap.size W.heap.size W.heap.size W.heap.size W.heap.size (W.heap.size + 1), (show w.heap.size < W.heap.size by omega), (show q < W.heap.size by omega), ?_, ?_, rfl⟩, K⟩
    · show RwC W' q [.slice (some ⟨W.heap.size, 0, none⟩) (tkB xs 0 64).length 64] 94
      rw [tkB_len]
      exact Q
    · exact ⟨(fun h => absurd h (by simp [rdProof])), (fun h => absurd h (by simp [rdProof])), nilT _ _, (fun h => absurd h (by simp [rdProof])), (fun h => absurd h (by simp [rdProof])), BRow.nil _ _, B.own0, (fun h => absurd h (by simp [rdProof])), (fun h => absurd h (by simp [rdProof])), (fun h => absurd h (by simp [rdProof])), (fun h => absurd h (by simp [rdProof])), (fun h => absurd h (by simp [rdProof])), (fun h => absurd h (by simp [rdProof])), (fun i h => absurd h (by simp [rdProof])), (fun _ => ⟨(by simp only [fnF] <;> omega), (by simp only [fnF] <;> omega)⟩), ⟨(by simp only [fnF] <;> omega), (by simp only [fnF] <;> omega), (by simp only [fnF] <;> omega), (by simp only [fnF] <;> omega), (by simp only [fnF] <;> omega), (by simp only [fnF] <;> omega), (by simp only [fnF] <;> omega)⟩, ⟨(fun _ => rfl), (fun _ => rfl), (fun _ => rfl), (fun _ => rfl), (fun h => by cases h), fun i hi => absurd hi (by simp [rdProof])⟩, Nat.zero_le _, rfl⟩
  · rintro W ⟨p, bs, F, h1, h2, h3, h4, -⟩
    rw [mfProof]
    refine (proofFault_any W q p.a12 (rdProof xs).pf.length p.c12 isM.pfL (h3.cell 0)).mono ?_
    rintro e W' ⟨rfl, hw⟩
    exact ⟨rfl, by rw [hw]; exact Below.refl _ _⟩
  · rintro W ⟨p, bs, F, h1, h2, h3, h4, -⟩ f0
    have hM := h4.has
    exact proofBody_any W q ⟨p.g12, p.a12, p.c12, (rdProof xs).pf⟩ (lstR_of hM.pf h4.z.z12 isM.pfL) (h3.cell 0)
end Go.Proofs.YtmmbkkfjiaoeiaaGreat
namespace Go.Proofs.YtmmbkkfjiaoeiaaGreat
open Go Go.RowKit
def cFinished : MQ → Msg → List Value := fun p m => [.slice p.a12 m.pf.length p.c12]
def nFinished : MQ → MQ := fun p => { mq0 with a12 := p.a12, c12 := p.c12, g12 := p.g12 }
theorem mfFinished (xs : List Int) : mfF (rdFinished xs) = pfF 32 (rdFinished xs).pf.length := by unfold mfF; simp [kfF, rdFinished, finishedM, msg0, sameM]
set_option maxRecDepth 100000 in
set_option maxHeartbeats 1000000 in
theorem rwFinished_any (w : World) (q g : Nat) (a : Option Addr) (c : Nat) (xs : List Int) (hq : RwC w q [.slice none 0 0] 96) (hr : Rd w g a .u8 xs) (hb : Byt xs) (hgq : 0 < xs.length → g ≠ q) (hc0 : a = none → c = 0) (hc : xs.length ≤ c) (hn : xs.length ≤ 1048576) :
    Calls Tryz.prog 49 #[.iface 95 (.pointer (some ⟨q, 0, none⟩)), .slice a xs.length c] w fun e w' => e = .returned (.bool (decide (mfF (rdFinished xs) = 0 ∧ bodF (rdFinished xs) = xs))) ∧ (decide (mfF (rdFinished xs) = 0 ∧ bodF (rdFinished xs) = xs) = true → RK cFinished nFinished 96 w.heap.size q (rdFinished xs) w') ∧ Tch [q] w w' := by
  have hfit : bodF (rdM 20 xs) = xs → 32 ≤ xs.length := fun h => fit_rd (k := 20) (by decide) h
  have eB := rwB_is (k := 20) (xs := xs) (fits := 32 ≤ xs.length) hfit
  have isM : IsM (rdFinished xs) := isM_rd hb 20
  have hql := hq.lt
  rw [show rdM 20 xs = rdFinished xs from rfl] at eB
  rw [← eB]
  refine readWhole_core w q g a c xs (bodF (rdFinished xs)) (mfF (rdFinished xs)) (32 ≤ xs.length) 95 96 [.slice none 0 0] 143 142 141 (RK cFinished nFinished 96 w.heap.size q (rdFinished xs)) hq hr hb (byt_rd hb 20) hgq (fun _ _ => by kernel_rfl) (fun _ _ => by kernel_rfl) (fun _ _ => by kernel_rfl) (fun _ _ => by kernel_rfl) (fun _ _ => by kernel_rfl) (fun _ _ => by kernel_rfl) ?_ ?_ ?_ (fun W W' h n => h.up n) (fun W W' h O => h.onl (by omega) O)
  · intro W p hQ hC hqp hpl hR hgp hwp
    refine (finRead_any W q p g a c xs 96 hQ hqp hC hpl hR hb hgp hgq hc0 hc hn).mono ?_
    rintro e W' ⟨⟨hfits, rfl, G, Q, -, B, lG⟩ | ⟨hbad, hpan⟩, K⟩
    rotate_left
    · exact ⟨.inr ⟨by omega, hpan⟩, K⟩
    have hql2 := hQ.lt
    have sK : W.heap.size ≤ W'.heap.size := K.size
    refine ⟨.inl ⟨hfits, rfl, ⟨none, 0, 0, none, 0, 0, none, 0, 0, none, 0, 0, none, 0, 0, none, 0, 0, some ⟨G, 0, none⟩, 32, G, []⟩, [], fnF W.heap.size W.heap.size W.heap.size W.heap.size W.heap.size W.heap.size W.heap.size (G + 1), (show w.heap.size < W.heap.size by omega), (show q < W.heap.size by omega), ?_, ?_, rfl⟩, K⟩
    · show RwC W' q [.slice (some ⟨G, 0, none⟩) (tkB xs 0 32).length 32] 96
      rw [tkB_len]
      exact Q
    · exact ⟨(fun h => absurd h (by simp [rdFinished])), (fun h => absurd h (by simp [rdFinished])), nilT _ _, (fun h => absurd h (by simp [rdFinished])), (fun h => absurd h (by simp [rdFinished])), BRow.nil _ _, B.own0, (fun h => absurd h (by simp [rdFinished])), (fun h => absurd h (by simp [rdFinished])), (fun h => absurd h (by simp [rdFinished])), (fun h => absurd h (by simp [rdFinished])), (fun h => absurd h (by simp [rdFinished])), (fun h => absurd h (by simp [rdFinished])), (fun i h => absurd h (by simp [rdFinished])), (fun _ => ⟨(by simp only [fnF] <;> omega), (by simp only [fnF] <;> omega)⟩), ⟨(by simp only [fnF] <;> omega), (by simp only [fnF] <;> omega), (by simp only [fnF] <;> omega), (by simp only [fnF] <;> omega), (by simp only [fnF] <;> omega), (by simp only [fnF] <;> omega), (by simp only [fnF] <;> omega)⟩, ⟨(fun _ => rfl), (fun _ => rfl), (fun _ => rfl), (fun _ => rfl), (fun h => by cases h), fun i hi => absurd hi (by simp [rdFinished])⟩, Nat.zero_le _, rfl⟩
  · rintro W ⟨p, bs, F, h1, h2, h3, h4, -⟩
    rw [mfFinished]
    refine (finishedFault_any W q p.a12 (rdFinished xs).pf.length p.c12 isM.pfL (h3.cell 0)).mono ?_
    rintro e W' ⟨rfl, hw⟩
    exact ⟨rfl, by rw [hw]; exact Below.refl _ _⟩
  · rintro W ⟨p, bs, F, h1, h2, h3, h4, -⟩ f0
    have hM := h4.has
    exact finishedBody_any W q ⟨p.g12, p.a12, p.c12, (rdFinished xs).pf⟩ (lstR_of hM.pf h4.z.z12 isM.pfL) (h3.cell 0)
end Go.Proofs.YtmmbkkfjiaoeiaaGreat
namespace Go.Proofs.YtmmbkkfjiaoeiaaGreat
open Go Go.RowKit
def cUpdate : MQ → Msg → List Value := fun _ m => [.int .i64 m.ea]
def nUpdate : MQ → MQ := fun _ => mq0
theorem mfUpdate (xs : List Int) : mfF (rdUpdate xs) = upF (rdUpdate xs).ea := by unfold mfF; simp [kfF, rdUpdate, updateM, msg0, sameM]
set_option maxRecDepth 100000 in
set_option maxHeartbeats 1000000 in
theorem rwUpdate_any (w : World) (q g : Nat) (a : Option Addr) (c : Nat) (xs : List Int) (hq : RwC w q [.int .i64 0] 99) (hr : Rd w g a .u8 xs) (hb : Byt xs) (hgq : 0 < xs.length → g ≠ q) (hc0 : a = none → c = 0) (hc : xs.length ≤ c) (hn : xs.length ≤ 1048576) :
    Calls Tryz.prog 49 #[.iface 97 (.pointer (some ⟨q, 0, none⟩)), .slice a xs.length c] w fun e w' => e = .returned (.bool (decide (mfF (rdUpdate xs) = 0 ∧ bodF (rdUpdate xs) = xs))) ∧ (decide (mfF (rdUpdate xs) = 0 ∧ bodF (rdUpdate xs) = xs) = true → RK cUpdate nUpdate 99 w.heap.size q (rdUpdate xs) w') ∧ Tch [q] w w' := by
  have hfit : bodF (rdM 24 xs) = xs → 1 ≤ xs.length := fun h => fit_rd (k := 24) (by decide) h
  have eB := rwB_is (k := 24) (xs := xs) (fits := 1 ≤ xs.length) hfit
  have isM : IsM (rdUpdate xs) := isM_rd hb 24
  have hql := hq.lt
  rw [show rdM 24 xs = rdUpdate xs from rfl] at eB
  rw [← eB]
  refine readWhole_core w q g a c xs (bodF (rdUpdate xs)) (mfF (rdUpdate xs)) (1 ≤ xs.length) 97 99 [.int .i64 0] 147 146 145 (RK cUpdate nUpdate 99 w.heap.size q (rdUpdate xs)) hq hr hb (byt_rd hb 24) hgq (fun _ _ => by kernel_rfl) (fun _ _ => by kernel_rfl) (fun _ _ => by kernel_rfl) (fun _ _ => by kernel_rfl) (fun _ _ => by kernel_rfl) (fun _ _ => by kernel_rfl) ?_ ?_ ?_ (fun W W' h n => h.up n) (fun W W' h O => h.onl (by omega) O)
  · intro W p hQ hC hqp hpl hR hgp hwp
    refine (updRead_any W q p g a c xs 99 hQ hqp hC hpl hR hb hgp hgq hc0 hc hn).mono ?_
    rintro e W' ⟨⟨hfits, rfl, Q, -⟩ | ⟨hbad, hpan⟩, K⟩
    rotate_left
    · exact ⟨.inr ⟨by omega, hpan⟩, K⟩
    have hql2 := hQ.lt
    have sK : W.heap.size ≤ W'.heap.size := K.size
    exact ⟨.inl ⟨hfits, rfl, mq0, [], fun _ => W.heap.size, (show w.heap.size < W.heap.size by omega), (show q < W.heap.size by omega), Q, ⟨(fun h => absurd h (by simp [rdUpdate])), (fun h => absurd h (by simp [rdUpdate])), nilT _ _, (fun h => absurd h (by simp [rdUpdate])), (fun h => absurd h (by simp [rdUpdate])), BRow.nil _ _, (fun h => absurd h (by simp [rdUpdate])), (fun h => absurd h (by simp [rdUpdate])), (fun h => absurd h (by simp [rdUpdate])), (fun h => absurd h (by simp [rdUpdate])), (fun h => absurd h (by simp [rdUpdate])), (fun h => absurd h (by simp [rdUpdate])), (fun h => absurd h (by simp [rdUpdate])), (fun i h => absurd h (by simp [rdUpdate])), (fun h => absurd h (by simp [rdUpdate])), ⟨Nat.le_refl _, Nat.le_refl _, Nat.le_refl _, Nat.le_refl _, Nat.le_refl _, Nat.le_refl _, Nat.le_refl _⟩, ⟨(fun _ => rfl), (fun _ => rfl), (fun _ => rfl), (fun _ => rfl), (fun _ => rfl), fun i hi => absurd hi (by simp [rdUpdate])⟩, Nat.zero_le _, rfl⟩, rfl⟩, K⟩
  · rintro W ⟨p, bs, F, h1, h2, h3, h4, -⟩
    rw [mfUpdate]
    refine (updateFault_any W q (rdUpdate xs).ea (h3.cell 0)).mono ?_
    rintro e W' ⟨rfl, hw⟩
    exact ⟨rfl, by rw [hw]; exact Below.refl _ _⟩
  · rintro W ⟨p, bs, F, h1, h2, h3, h4, -⟩ f0
    exact updateBody_any W q (rdUpdate xs).ea (h3.cell 0)
end Go.Proofs.YtmmbkkfjiaoeiaaGreat
namespace Go.Proofs.YtmmbkkfjiaoeiaaGreat
open Go Go.RowKit
set_option maxRecDepth 20000 in
theorem decode_any (w : World) (mq g : Nat) (a : Option Addr) (c : Nat) (xs : List Int) (at_ : Int) (hm : w.heap[mq]? = some (.map regE 9)) (hr : Rd w g a .u8 xs) (hb : Byt xs) (hz : a = none → c = 0) (hc : xs.length ≤ c) (hx : xs.length ≤ 1048576) :
    Calls Tryz.prog 24 #[.map (some mq), .slice a xs.length c, .int .i64 at_] w fun e w' => DcP w xs at_ e w' := by
  by_cases ho : at_ < 0 ∨ (xs.length : Int) < at_
  · exact decode_out w mq a c xs at_ ho
  obtain ⟨i, rfl⟩ := Int.eq_ofNat_of_zero_le (show 0 ≤ at_ by omega)
  have hi : i ≤ xs.length := by omega
  by_cases hp : dmP (xs.drop i) = 0
  rotate_left
  · exact decode_pre w mq g a c xs i hi hm hr hb hz hc hx hp
  have hk := (dmP_zero hp).2.1
  have : (xs.drop i).getD 0 0 = 1 ∨ (xs.drop i).getD 0 0 = 2 ∨ (xs.drop i).getD 0 0 = 4 ∨ (xs.drop i).getD 0 0 = 5 ∨ (xs.drop i).getD 0 0 = 8 ∨ (xs.drop i).getD 0 0 = 11 ∨ (xs.drop i).getD 0 0 = 15 ∨ (xs.drop i).getD 0 0 = 20 ∨ (xs.drop i).getD 0 0 = 24 := by simpa only [kinds, List.mem_cons, List.not_mem_nil, or_false] using hk
  rcases this with e | e | e | e | e | e | e | e | e
  · exact decode_body w mq g a c xs i hi hm hr hb hz hc hx hp 1 e 39 72 76 [.int .i64 0, .slice none 0 0, .slice none 0 0, .string ⟨#[]⟩, .slice none 0 0, .slice none 0 0, .int .i64 0, .int .i64 0, .slice none 0 0] cHello nHello rfl (fun _ _ => by kernel_rfl) newHello_any (fun w q g a c ys h1 h2 h3 h4 h5 h6 h7 => rwHello_any w q g a c ys h1 h2 h3 h4 h5 h6 h7) (fun W q p ys hn h => by rw [← hn] at h ⊢; exact plainHello_any (h := h))
  · exact decode_body w mq g a c xs i hi hm hr hb hz hc hx hp 2 e 40 77 79 [.int .i64 0, .slice none 0 0, .slice none 0 0, .bool false] cAnswer nAnswer rfl (fun _ _ => by kernel_rfl) newAnswer_any (fun w q g a c ys h1 h2 h3 h4 h5 h6 h7 => rwAnswer_any w q g a c ys h1 h2 h3 h4 h5 h6 h7) (fun W q p ys hn h => by rw [← hn] at h ⊢; exact plainAnswer_any (h := h))
  · exact decode_body w mq g a c xs i hi hm hr hb hz hc hx hp 4 e 41 80 82 [.int .i64 0, .int .i64 0, .slice none 0 0, .slice none 0 0] cTicket nTicket rfl (fun _ _ => by kernel_rfl) newTicket_any (fun w q g a c ys h1 h2 h3 h4 h5 h6 h7 => rwTicket_any w q g a c ys h1 h2 h3 h4 h5 h6 h7) (fun W q p ys hn h => by rw [← hn] at h ⊢; exact plainTicket_any (h := h))
  · exact decode_body w mq g a c xs i hi hm hr hb hz hc hx hp 5 e 42 83 85 [] cEnd nEnd rfl (fun _ _ => by kernel_rfl) newEnd_any (fun w q g a c ys h1 h2 h3 h4 h5 h6 h7 => rwEnd_any w q g a c ys h1 h2 h3 h4 h5 h6 h7) (fun W q p ys hn _ => by rw [← hn]; exact plainEnd_any W (.pointer (some ⟨q, 0, none⟩)))
  · exact decode_body w mq g a c xs i hi hm hr hb hz hc hx hp 8 e 43 86 88 [.slice none 0 0, .int .i64 0] cExtras nExtras rfl (fun _ _ => by kernel_rfl) newExtras_any (fun w q g a c ys h1 h2 h3 h4 h5 h6 h7 => rwExtras_any w q g a c ys h1 h2 h3 h4 h5 h6 h7) (fun W q p ys hn h => by rw [← hn] at h ⊢; exact plainExtras_any (h := h))
  · exact decode_body w mq g a c xs i hi hm hr hb hz hc hx hp 11 e 44 89 91 [.slice none 0 0] cCerts nCerts rfl (fun _ _ => by kernel_rfl) newCerts_any (fun w q g a c ys h1 h2 h3 h4 h5 h6 h7 => rwCerts_any w q g a c ys h1 h2 h3 h4 h5 h6 h7) (fun W q p ys hn h => by rw [← hn] at h ⊢; exact plainCerts_any (h := h))
  · exact decode_body w mq g a c xs i hi hm hr hb hz hc hx hp 15 e 45 92 94 [.slice none 0 0] cProof nProof rfl (fun _ _ => by kernel_rfl) newProof_any (fun w q g a c ys h1 h2 h3 h4 h5 h6 h7 => rwProof_any w q g a c ys h1 h2 h3 h4 h5 h6 h7) (fun W q p ys hn h => by rw [← hn] at h ⊢; exact plainProof_any (h := h))
  · exact decode_body w mq g a c xs i hi hm hr hb hz hc hx hp 20 e 46 95 96 [.slice none 0 0] cFinished nFinished rfl (fun _ _ => by kernel_rfl) newFinished_any (fun w q g a c ys h1 h2 h3 h4 h5 h6 h7 => rwFinished_any w q g a c ys h1 h2 h3 h4 h5 h6 h7) (fun W q p ys hn h => by rw [← hn] at h ⊢; exact plainFinished_any (h := h))
  · exact decode_body w mq g a c xs i hi hm hr hb hz hc hx hp 24 e 47 97 99 [.int .i64 0] cUpdate nUpdate rfl (fun _ _ => by kernel_rfl) newUpdate_any (fun w q g a c ys h1 h2 h3 h4 h5 h6 h7 => rwUpdate_any w q g a c ys h1 h2 h3 h4 h5 h6 h7) (fun W q p ys hn h => by rw [← hn] at h ⊢; exact plainUpdate_any (h := h))
end Go.Proofs.YtmmbkkfjiaoeiaaGreat
namespace Go.Proofs.YtmmbkkfjiaoeiaaGreat
open Go Go.RowKit
set_option maxRecDepth 20000 in
set_option maxHeartbeats 1000000 in
theorem implDM_any (w : World) (g : Nat) (a : Option Addr) (c : Nat) (xs : List Int) (at_ : Int) (hr : Rd w g a .u8 xs) (hb : Byt xs) (hz : a = none → c = 0) (hc : xs.length ≤ c) (hx : xs.length ≤ 1048576) :
    Calls Tryz.prog 8 #[.slice a xs.length c, .int .i64 at_] w fun e w' => DcP w xs at_ e w' := by
  have Z : RwC (w.alloc (.cells #[.int .i64 0, .int .i64 0, .int .i64 0, .slice none 0 0, .slice none 0 0, .string ⟨#[]⟩, .slice none 0 0, .slice none 0 0, .int .i64 0, .int .i64 0, .slice none 0 0, .bool false, .slice none 0 0, .slice none 0 0, .int .i64 0] 31)) w.heap.size [.int .i64 0, .int .i64 0, .int .i64 0, .slice none 0 0, .slice none 0 0, .string ⟨#[]⟩, .slice none 0 0, .slice none 0 0, .int .i64 0, .int .i64 0, .slice none 0 0, .bool false, .slice none 0 0, .slice none 0 0, .int .i64 0] 31 := RwC.new w _ _
  have N : Below w.heap.size w (w.alloc (.cells #[.int .i64 0, .int .i64 0, .int .i64 0, .slice none 0 0, .slice none 0 0, .string ⟨#[]⟩, .slice none 0 0, .slice none 0 0, .int .i64 0, .int .i64 0, .slice none 0 0, .bool false, .slice none 0 0, .slice none 0 0, .int .i64 0] 31)) := (Below.refl _ _).alloc (Nat.le_refl _) _
  obtain ⟨d15, hd15, hrow15⟩ := rowMR
  have DC := hide (fun (W : World) (mq : Nat) (hm : W.heap[mq]? = some (.map regE 9)) (n : Below w.heap.size w W) => decode_any W mq g a c xs at_ hm (hr.up n) hb hz hc hx)
  clear hr hb hz hc hx
  go_enter Tryz.func8, Tryz.ntmps8
  go_upto_region 1 with fail
  generalize w.alloc (.cells #[.int .i64 0, .int .i64 0, .int .i64 0, .slice none 0 0, .slice none 0 0, .string ⟨#[]⟩, .slice none 0 0, .slice none 0 0, .int .i64 0, .int .i64 0, .slice none 0 0, .bool false, .slice none 0 0, .slice none 0 0, .int .i64 0] 31) = W at *
  go_wp2_with fail
  refine (messageKinds_any W).mono ?_
  rintro e W1 ⟨rfl, hm, n1⟩
  have Z1 := Z.up n1
  have N1 := nxt N n1
  have lw := Z.lt
  have DD := hide (DC.out W1 W.heap.size hm N1)
  have s1 := n1.size
  clear Z N n1 hm DC
  go_wp2_with fail
  refine DD.out.mono ?_
  rintro e W2 ⟨⟨p, bs, F, rfl, hF, hA⟩, n2⟩
  have Z2 := Z1.up n2
  have N2 := nxt N1 n2
  clear Z1 N1 n2 DD
  obtain ⟨cd, hcd⟩ : ∃ x, Hid (dmC xs at_ = x) := ⟨_, rfl⟩
  obtain ⟨m, hmm⟩ : ∃ x, Hid (dmR xs at_ = x) := ⟨_, rfl⟩
  obtain ⟨nx, hnx⟩ : ∃ x, Hid (dmE xs at_ = x) := ⟨_, rfl⟩
  rw [hmm.out] at hA
  rw [hcd.out, hmm.out, hnx.out]
  unfold rsV
  have THR := Z2.thereG
  have OQ := only_setG W2 w.heap.size [.int .i64 cd, .int .i64 m.k, .int .i64 m.v, .slice p.a2 m.r.length p.c2, .slice p.a3 m.s.length p.c3, .string ⟨⟨m.ho⟩⟩, .slice p.a5 m.pr.length p.c5, .slice p.a6 m.ti.length p.c6, .int .i64 m.ag, .int .i64 m.ea, .slice p.a9 m.bi.length p.c9, .bool m.rs, .slice p.a11 m.ce.length p.c11, .slice p.a12 m.pf.length p.c12, .int .i64 nx] 0
  have RR := World.rangeAt_setCells_same W2 w.heap.size 0 [.int .i64 cd, .int .i64 m.k, .int .i64 m.v, .slice p.a2 m.r.length p.c2, .slice p.a3 m.s.length p.c3, .string ⟨⟨m.ho⟩⟩, .slice p.a5 m.pr.length p.c5, .slice p.a6 m.ti.length p.c6, .int .i64 m.ag, .int .i64 m.ea, .slice p.a9 m.bi.length p.c9, .bool m.rs, .slice p.a11 m.ce.length p.c11, .slice p.a12 m.pf.length p.c12, .int .i64 nx] THR
  have RES : Hid (DcP w xs at_ (Ending.returned (.agg #[.int .i64 cd, .int .i64 m.k, .int .i64 m.v, .slice p.a2 m.r.length p.c2, .slice p.a3 m.s.length p.c3, .string ⟨⟨m.ho⟩⟩, .slice p.a5 m.pr.length p.c5, .slice p.a6 m.ti.length p.c6, .int .i64 m.ag, .int .i64 m.ea, .slice p.a9 m.bi.length p.c9, .bool m.rs, .slice p.a11 m.ce.length p.c11, .slice p.a12 m.pf.length p.c12, .int .i64 nx])) (W2.setCells w.heap.size 0 [.int .i64 cd, .int .i64 m.k, .int .i64 m.v, .slice p.a2 m.r.length p.c2, .slice p.a3 m.s.length p.c3, .string ⟨⟨m.ho⟩⟩, .slice p.a5 m.pr.length p.c5, .slice p.a6 m.ti.length p.c6, .int .i64 m.ag, .int .i64 m.ea, .slice p.a9 m.bi.length p.c9, .bool m.rs, .slice p.a11 m.ce.length p.c11, .slice p.a12 m.pf.length p.c12, .int .i64 nx])) := by
    show DcP _ _ _ _ _
    unfold DcP
    rw [hcd.out, hmm.out, hnx.out]
    exact ⟨⟨p, bs, F, rfl, by omega, hA.onl OQ (by omega)⟩, N2.trans (OQ.below (Nat.le_refl _))⟩
  have ON : (#[.int .i64 cd, .int .i64 m.k, .int .i64 m.v, .slice p.a2 m.r.length p.c2, .slice p.a3 m.s.length p.c3, .string ⟨⟨m.ho⟩⟩, .slice p.a5 m.pr.length p.c5, .slice p.a6 m.ti.length p.c6, .int .i64 m.ag, .int .i64 m.ea, .slice p.a9 m.bi.length p.c9, .bool m.rs, .slice p.a11 m.ce.length p.c11, .slice p.a12 m.pf.length p.c12, .int .i64 nx] : Array Value).all (·.oneCell') = true := one15m cd p m nx
  clear OQ Z2 N2 hA
  go_wp2_with (refine wpList_store_mid rfl 31 (.tmp 4) (.tmp 8) rfl w.heap.size 0 #[.int .i64 cd, .int .i64 m.k, .int .i64 m.v, .slice p.a2 m.r.length p.c2, .slice p.a3 m.s.length p.c3, .string ⟨⟨m.ho⟩⟩, .slice p.a5 m.pr.length p.c5, .slice p.a6 m.ti.length p.c6, .int .i64 m.ag, .int .i64 m.ea, .slice p.a9 m.bi.length p.c9, .bool m.rs, .slice p.a11 m.ce.length p.c11, .slice p.a12 m.pf.length p.c12, .int .i64 nx] rfl rfl THR iMR ON ?_)
  exact bodyPost_ret (v := .agg #[.int .i64 cd, .int .i64 m.k, .int .i64 m.v, .slice p.a2 m.r.length p.c2, .slice p.a3 m.s.length p.c3, .string ⟨⟨m.ho⟩⟩, .slice p.a5 m.pr.length p.c5, .slice p.a6 m.ti.length p.c6, .int .i64 m.ag, .int .i64 m.ea, .slice p.a9 m.bi.length p.c9, .bool m.rs, .slice p.a11 m.ce.length p.c11, .slice p.a12 m.pf.length p.c12, .int .i64 nx]) (results_cellG Tryz.results8 _ _ w.heap.size _ d15 rfl RR hd15 hrow15 iMR) rfl RES.out
theorem specDM_new (w : World) (g : Nat) (a : Option Addr) (c : Nat) (xs : List Int) (at_ : Int) (hr : Rd w g a .u8 xs) (hb : Byt xs) (hz : a = none → c = 0) (hc : xs.length ≤ c) (hx : xs.length ≤ 1048576) :
    Calls Tryz.prog 12 #[.slice a xs.length c, .int .i64 at_] w fun e w' => (∃ p, e = .returned (.agg (rsV (dmC xs at_) p (dmR xs at_) (dmE xs at_))) ∧ HasM w' p (dmR xs at_) ∧ ∀ b, b < w.heap.size → NoM b p (dmR xs at_)) ∧ Below w.heap.size w w' := by
  by_cases ho : at_ < 0 ∨ (xs.length : Int) < at_
  · exact specDM_out w a c xs at_ hx ho
  obtain ⟨i, rfl⟩ := Int.eq_ofNat_of_zero_le (show 0 ≤ at_ by omega)
  by_cases hp : dmP (xs.drop i) = 0
  · exact specDM_body w g a c xs i (by omega) hr hb hz hc hx hp
  · exact specDM_pre w g a c xs i (by omega) hr hb hz hc hx hp
theorem specDM_any (w : World) (g : Nat) (a : Option Addr) (c : Nat) (xs : List Int) (at_ : Int) (hr : Rd w g a .u8 xs) (hb : Byt xs) (hz : a = none → c = 0) (hc : xs.length ≤ c) (hx : xs.length ≤ 1048576) :
    Calls Tryz.prog 12 #[.slice a xs.length c, .int .i64 at_] w fun e w' => (∃ p, e = .returned (.agg (rsV (dmC xs at_) p (dmR xs at_) (dmE xs at_))) ∧ HasM w' p (dmR xs at_)) ∧ Below w.heap.size w w' :=
  (specDM_new w g a c xs at_ hr hb hz hc hx).mono (by rintro e w' ⟨⟨p, h1, h2, -⟩, n⟩; exact ⟨⟨p, h1, h2⟩, n⟩)
theorem isM_dm {xs : List Int} (hb : Byt xs) (at_ : Int) : IsM (dmR xs at_) := by
  unfold dmR
  split
  · exact isM_rd (dmX_byt (byt_drop hb _)) _
  · exact isM0
end Go.Proofs.YtmmbkkfjiaoeiaaGreat
namespace Go.Proofs.YtmmbkkfjiaoeiaaGreat
open Go Go.RowKit
theorem RowB.butM {w w' : World} {base s : Nat} {v : Value} {ys : List Int} (h : RowB w base v ys) (n : But s w w') (hs : s < base) : RowB w' base v ys := own_dg (X := 26) h (by decide) (dgK.but n hs)
theorem Drm.gLt {w : World} {s g : Nat} {a : Option Addr} {c : Nat} {xs : List Int} {t : Int} (d : Drm w s g a c xs t) : 0 < xs.length → g < w.heap.size := fun h => d.R.lt h
theorem But.appM {w W W' : World} {s : Nat} (h : But s w W) (n : Below w.heap.size W W') : But s w W' := ⟨n.os.trans h.os, n.tape.trans h.tape, n.output.trans h.output, Nat.le_trans h.size n.size, fun j hj hn => (n.block j hj).trans (h.block j hj hn)⟩
set_option maxRecDepth 100000 in
set_option maxHeartbeats 4000000 in
theorem drawStream_M {w : World} {s g : Nat} {a : Option Addr} {c : Nat} {xs : List Int} {t : Int} (d : Drm w s g a c xs t) (t1 : t ≤ 1000) :
    Calls Tryz.prog 26 #[.pointer (some ⟨s, 0, none⟩), .int .i64 2] w fun e w' => ∃ (v : Value) (ys : List Int) (u : Int), e = .returned v ∧ RowB w' w.heap.size v ys ∧ Byt ys ∧ ys.length ≤ 20000 ∧ u ≤ t + 81 ∧ Drm w' s g a c xs u ∧ But s w w' := by
  obtain ⟨i0, hi, hz0, hz1, hz2⟩ := info_parts Tryz.info5
  have ls := d.S.lt
  have lg := d.gLt
  have n0 : Below w.heap.size w (w.alloc (.cells #[] 5)) := (Below.refl _ _).alloc (Nat.le_refl _) _
  have R0 : Hid (RowB (w.alloc (.cells #[] 5)) w.heap.size (.slice (some ⟨w.heap.size, 0, none⟩) 0 0) []) := World.ownsRow_lit w #[] 0 (Nat.le_refl _) (by unfold maxLen; omega) (by simp)
  have D0 := hide (d.up n0)
  have U0 : Hid (But s w (w.alloc (.cells #[] 5))) := But.ofBelow n0
  have S0 : w.heap.size ≤ (w.alloc (.cells #[] 5)).heap.size := n0.size
  clear d n0
  go_enter Tryz.func26, Tryz.ntmps26
  go_upto_region 2 with fail
  generalize w.alloc (.cells #[] 5) = w1 at *
  go_wp2_with fail
  refine (next_M D0.out (by omega) (by omega) (by omega)).mono ?_
  rintro e w2 ⟨r, rfl, -, hr, d2, b2⟩
  have R2 := R0.out.butM b2 ls
  have U2 := U0.out.trans b2
  clear R0 U0 D0 b2
  go_wp2_with fail
  go_loopw [5, 6] (fun v i wr => ∃ (k : Nat) (ys : List Int) (u : Int), i = .int .i64 (k : Int) ∧ RowB wr w.heap.size v ys ∧ Byt ys ∧ ys.length + 10000 * k ≤ 20000 ∧ u + 40 * k ≤ t + 81 ∧ Drm wr s g a c xs u ∧ But s w wr) (fun _ i _ => (intOf i).toNat)
  case atStart => exact ⟨r, [], _, rfl, R2, byt_nil, by simp; omega, by omega, d2, U2⟩
  case round =>
    clear R2 d2 U2 hr
    obtain ⟨k, ys, u, rfl, R, yb, yl, hu, D, U⟩ := hrel
    by_cases hk : k = 0
    · subst hk
      rw [show ((0 : Nat) : Int) = 0 from rfl]
      have FR := hide R
      have FD := hide D
      have FU := hide U
      clear R D U
      go_wp2
      go_ret
      exact ⟨_, ys, u, rfl, FR.out, yb, by omega, by omega, FD.out, FU.out⟩
    · have tk : decide ((0 : Int) < (k : Int)) = true := decide_eq_true (by omega)
      have tk' : 0 < k := by omega
      have sk : IntKind.i64.wrap ((k : Int) - 1) = ((k - 1 : Nat) : Int) := by rw [IntKind.wrap_i64]; omega
      have sk' : wrap64 ((k : Int) - 1) = ((k - 1 : Nat) : Int) := by unfold wrap64; omega
      go_wp2_with fail
      refine (drawMsg_M D (by omega)).mono ?_
      rintro e w3 ⟨m, u3, -, ⟨v0, v1, v2, v3, v4, v5, v6, v7, v8, v9, v10, v11, v12, rfl, M⟩, hu3, d3, b3⟩
      obtain ⟨p, em, HM, IM, HZ⟩ := M.rd.msg
      rw [em]
      have R3 := R.butM b3 ls
      have U3 := U.trans b3
      have SE := hide (specEnc_any w3 p m HM IM HZ)
      have EL : Hid ((encF m).length ≤ 10000) := enc_le m
      have EB : Hid (Byt (encF m)) := by
        by_cases mz : mfF m = 0
        · exact enc_bytM mz IM
        · show Byt _
          unfold encF
          rw [if_neg mz]
          exact byt_nil
      clear D R U b3 M em HM HZ IM
      unfold mgV
      go_wp2_with fail
      refine SE.out.mono ?_
      rintro e w4 ⟨⟨x, rfl, R4⟩, n4⟩
      have s3 := U3.size
      have s4 := n4.size
      have RV := R3.up n4
      have D4 := d3.up n4
      have U4 := U3.appM (n4.mono s3)
      clear SE R3 d3 U3 n4
      obtain ⟨ax, cx, gx, rfl, rx, nx, kx, _⟩ := R4.rd
      obtain ⟨v', w5, h1, R5, N5⟩ := append_any w4 22 i0 Tryz.underlying22 hi hz0 hz1 hz2 w.heap.size w.heap.size _ ys RV gx ax cx (encF m) rx nx (by have := EL.out; omega) (Nat.le_refl _) (by omega)
      have D5 := hide (D4.keep (N5.block s (by omega)) (fun h0 => N5.block g (by have := lg h0; omega)))
      have U5 := hide (U4.appM N5)
      have R5H := hide R5
      have B5 : Hid (Byt (ys ++ encF m)) := byt_apd yb EB.out
      have L5 : Hid ((ys ++ encF m).length + 10000 * (k - 1) ≤ 20000) := by
        show _ ≤ _
        have := EL.out
        rw [List.length_append]
        omega
      clear RV R5 R4 rx nx N5 D4 U4 EL EB yb kx
      go_wp2_with (at_builtin; refine Lib.wpList_append_run _ rfl _ _ 22 22 rfl _ _ rfl rfl _ _ h1 ?_)
      clear h1
      go_wp2
      go_roundw
      case rel => exact ⟨k - 1, ys ++ encF m, u3, by first | rfl | go_num, R5H.out, B5.out, L5.out, by omega, D5.out, U5.out⟩
      case measure => simp [intOf]; omega
theorem spoil_M {w0 w : World} {s g : Nat} {a : Option Addr} {c : Nat} {xs : List Int} {t : Int} {v : Value} {ys : List Int} (d : Drm w s g a c xs t) (hl : xs.length ≤ 1048576) (t1 : t ≤ 10000) (hR : RowB w w0.heap.size v ys) (b : But s w0 w) (ls : s < w0.heap.size) (lg : 0 < xs.length → g < w0.heap.size) (yb : Byt ys) (y1 : ys.length ≤ 1000000) :
    Calls Tryz.prog 28 #[.pointer (some ⟨s, 0, none⟩), v] w fun e w' => ∃ (zs : List Int) (r : Value) (u : Int), e = .returned r ∧ Byt zs ∧ zs.length ≤ ys.length + 1 ∧ RowB w' w0.heap.size r zs ∧ u ≤ t + 10 ∧ Drm w' s g a c xs u ∧ But s w0 w' := by
  refine (l10SpoilM_any w s g a c xs t d.S d.R d.ne d.hb hl d.t0 t1 v ys w0.heap.size hR ls b.size yb y1).mono ?_
  rintro e w' ⟨zs, r, rfl, zb, zl, R, N, K, u, S, u0, u1⟩
  have ob : ∀ k, k < w0.heap.size → v.ownBlock ≠ some k := fun k hk e => by have := (World.ownsRow.lt hR k e).1; omega
  have sz := b.size
  refine ⟨zs, r, u, rfl, zb, zl, R, u1, ⟨S, ?_, d.ne, d.hb, d.hl, u0⟩, ⟨N.os.trans b.os, N.tape.trans b.tape, N.output.trans b.output, Nat.le_trans b.size N.size, fun k hk hn => (K k (by omega) hn (ob k hk)).trans (b.block k hk hn)⟩⟩
  by_cases h0 : 0 < xs.length
  · exact d.R.of_block (K g (by have := lg h0; omega) (d.ne h0) (ob g (lg h0)))
  · exact fun h1 => absurd h1 h0
end Go.Proofs.YtmmbkkfjiaoeiaaGreat
namespace Go.Proofs.YtmmbkkfjiaoeiaaGreat
open Go Go.RowKit
structure DdM (w1 W : World) (s g : Nat) (a : Option Addr) (c : Nat) (xs : List Int) (v : Value) (ys : List Int) (L : Nat) (u : Int) : Prop where
  r : RowB W w1.heap.size v ys
  yb : Byt ys
  yl : ys.length ≤ L
  d : Drm W s g a c xs u
  b : But s w1 W
theorem DdM.but {w1 W W' : World} {s g : Nat} {a : Option Addr} {c : Nat} {xs : List Int} {v : Value} {ys : List Int} {L : Nat} {u u' : Int} (h : DdM w1 W s g a c xs v ys L u) (hs : s < w1.heap.size) (n : But s W W') (d : Drm W' s g a c xs u') : DdM w1 W' s g a c xs v ys L u' := ⟨h.r.butM n hs, h.yb, h.yl, d, h.b.trans n⟩
theorem DdM.up {w1 W W' : World} {s g : Nat} {a : Option Addr} {c : Nat} {xs : List Int} {v : Value} {ys : List Int} {L : Nat} {u : Int} (h : DdM w1 W s g a c xs v ys L u) (n : Below W.heap.size W W') : DdM w1 W' s g a c xs v ys L u := ⟨h.r.up n, h.yb, h.yl, h.d.up n, h.b.appM (n.mono h.b.size)⟩
theorem wpList_field_run {P : Program} {ops : Array Oper} {rest : List Oper} {op : Oper} {a : Act} {w : World} {Q : Exit → Act → World → Prop} (hgd : op.guard = none) (ty : TypeId) (x : Operand) (i : Nat) (ho : op.op = .field ty x i) (v y : Value) (hx : a.eval x = v) (hr : (Instr.field ty v i).run P w = .ok y w) (h : wpList P ops Q rest (a.put op.dst y) w) : wpList P ops Q (op :: rest) a w :=
  wpList_plain hgd fun _ hK => by
    unfold Oper.wp execOp
    simp only [ho, hx, Sem.run_bind, hr, Result.andThen_ok, Sem.run_pure]
    exact hK _ _ h
theorem field_next (w : World) (cd : Int) (p : MQ) (m : Msg) (n : Int) : (Instr.field 31 (.agg (rsV cd p m n)) 2).run Tryz.prog w = .ok (.int .i64 n) w := by
  simp [Instr.field, rsV, asAgg, go_sem]
theorem field_code (w : World) (cd : Int) (p : MQ) (m : Msg) (n : Int) : (Instr.field 31 (.agg (rsV cd p m n)) 0).run Tryz.prog w = .ok (.int .i64 cd) w := by
  simp [Instr.field, rsV, asAgg, go_sem]
set_option maxRecDepth 100000 in
set_option maxHeartbeats 8000000 in
theorem drawDec_M (w : World) (g : Nat) (a : Option Addr) (c : Nat) (xs : List Int) (hr : Rd w g a .u8 xs) (hb : Byt xs) (hl : xs.length ≤ 1048576) :
    Calls Tryz.prog 10 #[.slice a xs.length c] w fun e w' => ∃ (v : Value) (ys : List Int) (i : Int), e = .returned (.tuple #[v, .int .i64 i]) ∧ RowB w' w.heap.size v ys ∧ Byt ys ∧ ys.length ≤ 30000 ∧ Below w.heap.size w w' := by
  go_enter Tryz.func10, Tryz.ntmps10
  go_wp2_with fail
  refine (l1SourceX_any w a xs.length c (by omega)).mono ?_
  rintro e w1 ⟨rfl, S1, n1⟩
  obtain ⟨s, hs⟩ : ∃ s, s = w.heap.size := ⟨_, rfl⟩
  rw [← hs] at S1 ⊢
  have ls : s < w1.heap.size := S1.lt
  have LG : Hid (0 < xs.length → g < w1.heap.size) := fun h => by
    have := hr.lt h
    omega
  have d1 : Drm w1 s g a c xs 0 := ⟨S1, hr.up n1, fun h => by have := hr.lt h; omega, hb, by omega, by omega⟩
  have N1 := hide n1
  have POST : ∀ (v : Value) (ys : List Int) (L : Nat) (i u : Int) (W : World), Hid (DdM w1 W s g a c xs v ys L u) → L ≤ 30000 → Hid (∃ (v' : Value) (ys : List Int) (i' : Int), Ending.returned (.tuple #[v, .int .i64 i]) = .returned (.tuple #[v', .int .i64 i']) ∧ RowB W w.heap.size v' ys ∧ Byt ys ∧ ys.length ≤ 30000 ∧ Below w.heap.size w W) := fun v ys L i u W h hL =>
    ⟨v, ys, i, rfl, own_base h.out.r N1.out.size, h.out.yb, Nat.le_trans h.out.yl hL, N1.out.trans (h.out.b.below (by omega) N1.out.size)⟩
  clear S1 n1 hr hs
  go_wp2_with fail
  refine (drawStream_M d1 (by omega)).mono ?_
  rintro e w2 ⟨v, ys, u, rfl, R2, yb, yl, hu, d2, b2⟩
  have D2 : DdM w1 w2 s g a c xs v ys 20000 u := ⟨R2, yb, yl, d2, b2⟩
  clear d1 R2 d2 b2
  go_wp2_with fail
  refine (chance_M D2.d (by omega) (by decide) (by decide)).mono ?_
  rintro e w3 ⟨b, rfl, -, d3, b3⟩
  have D3 := D2.but ls b3 d3
  clear D2 d3 b3
  go_upto_if 12 with fail
  go_cut [5, 6] (fun v k wc => ∃ (ys : List Int) (i u : Int), DdM w1 wc s g a c xs v ys 20000 u ∧ k = .int .i64 i ∧ u ≤ 100)
  case first =>
    cases b with
    | false =>
      have DH := hide D3
      clear D3
      go_wp2_with fail
      go_meet
      exact ⟨ys, 0, _, DH.out, rfl, by omega⟩
    | true =>
      obtain ⟨ya, yc, yg, rfl, rY, nY, kY, bY⟩ := D3.r.rd
      have SD := hide (specDM_any w3 yg ya yc ys 0 rY yb nY kY (by omega))
      have DH := hide D3
      clear D3 rY nY kY
      go_wp2_with fail
      refine SD.out.mono ?_
      rintro e w4 ⟨⟨p, rfl, -⟩, n4⟩
      have D4 := hide (DH.out.up n4)
      clear SD DH n4
      obtain ⟨cd, hcd⟩ : ∃ x, x = dmC ys 0 := ⟨_, rfl⟩
      obtain ⟨mr, hmr⟩ : ∃ x, x = dmR ys 0 := ⟨_, rfl⟩
      obtain ⟨nx, hnx⟩ : ∃ x, x = dmE ys 0 := ⟨_, rfl⟩
      rw [← hcd, ← hmr, ← hnx]
      clear hcd hmr hnx
      have FN := field_next w4 cd p mr nx
      go_wp2_with (first | (refine wpList_field_run rfl 31 (.tmp 14) 2 rfl _ _ rfl FN ?_) | fail)
      go_meet
      exact ⟨ys, nx, _, D4.out, rfl, by omega⟩
  case rest =>
    clear D3 yb yl ys hu u v
    obtain ⟨ys, i, u, D, rfl, hu⟩ := hcut
    go_wp2_with fail
    refine (chance_M D.d (by omega) (by decide) (by decide)).mono ?_
    rintro e w4 ⟨b, rfl, -, d4, b4⟩
    have D4 := D.but ls b4 d4
    clear D d4 b4
    go_upto_if 17 with fail
    go_cut [5, 6] (fun v k wc => ∃ (ys : List Int) (i u : Int), DdM w1 wc s g a c xs v ys 20001 u ∧ k = .int .i64 i ∧ u ≤ 120)
    case first =>
      cases b with
      | false =>
        have DH : Hid (DdM w1 w4 s g a c xs _ ys 20001 _) := ⟨D4.r, D4.yb, Nat.le_trans D4.yl (by decide), D4.d, D4.b⟩
        clear D4
        go_wp2_with fail
        go_meet
        exact ⟨ys, i, _, DH.out, rfl, by omega⟩
      | true =>
        have SP := hide (spoil_M D4.d hl (by omega) D4.r D4.b ls LG.out D4.yb (Nat.le_trans D4.yl (by decide)))
        have YL := hide D4.yl
        clear D4
        go_wp2_with fail
        refine SP.out.mono ?_
        rintro e w5 ⟨zs, r, u5, rfl, zb, zl, R5, hu5, d5, b5⟩
        have DH : Hid (DdM w1 w5 s g a c xs r zs 20001 u5) := ⟨R5, zb, by have := YL.out; omega, d5, b5⟩
        clear SP YL zb zl R5 d5 b5
        go_wp2_with fail
        go_meet
        exact ⟨zs, i, u5, DH.out, rfl, by omega⟩
    case rest =>
      clear D4 hu u ys i
      obtain ⟨ys, i, u, D, rfl, hu⟩ := hcut
      go_wp2_with fail
      refine (chance_M D.d (by omega) (by decide) (by decide)).mono ?_
      rintro e w5 ⟨b, rfl, -, d5, b5⟩
      have D5 := D.but ls b5 d5
      clear D d5 b5
      go_upto_if 22 with fail
      go_cut [5, 6] (fun v k wc => ∃ (ys : List Int) (i u : Int), DdM w1 wc s g a c xs v ys 20001 u ∧ k = .int .i64 i ∧ u ≤ 130)
      case first =>
        cases b with
        | false =>
          have DH := hide D5
          clear D5
          go_wp2_with fail
          go_meet
          exact ⟨ys, i, _, DH.out, rfl, by omega⟩
        | true =>
          have yl := D5.yl
          obtain ⟨ya, yc, yg, rfl, -, -, -, -⟩ := D5.r.rd
          have NX := hide (next_M (n := (ys.length : Int) + 3) D5.d (by omega) (by omega) (by omega))
          have DH := hide D5
          clear D5
          go_wp2_with fail
          refine NX.out.mono ?_
          rintro e w6 ⟨r, rfl, -, hr, d6, b6⟩
          have D6 := hide (DH.out.but ls b6 d6)
          clear NX DH d6 b6
          go_wp2_with fail
          go_meet
          exact ⟨ys, _, _, D6.out, rfl, by omega⟩
      case rest =>
        clear D5 hu u ys i
        obtain ⟨ys, i, u, D, rfl, hu⟩ := hcut
        go_wp2_with fail
        refine (chance_M D.d (by omega) (by decide) (by decide)).mono ?_
        rintro e w6 ⟨b, rfl, -, d6, b6⟩
        have D6 := D.but ls b6 d6
        clear D d6 b6
        cases b with
        | false =>
          have DH := hide D6
          clear D6
          go_wp2
          go_ret2
          exact (POST _ _ _ _ _ _ DH (by decide)).out
        | true =>
          have d6 := D6.d
          have b6 := D6.b
          clear D6
          go_wp2_with fail
          refine (next_M d6 (by omega) (by decide) (by decide)).mono ?_
          rintro e w7 ⟨r1, rfl, -, h1, d7, c7⟩
          have b7 := b6.trans c7
          clear d6 b6 c7
          go_wp2_with fail
          refine (next_M d7 (by omega) (by decide) (by decide)).mono ?_
          rintro e w8 ⟨r2, rfl, -, h2, d8, c8⟩
          have b8 := b7.trans c8
          clear d7 b7 c8
          go_wp2_with fail
          refine (next_M d8 (by omega) (by decide) (by decide)).mono ?_
          rintro e w9 ⟨r3, rfl, -, h3, d9, c9⟩
          have b9 := b8.trans c9
          clear d8 b8 c9
          have s9 := b9.size
          have na : Below w9.heap.size w9 (w9.alloc (.cells #[.int .u8 (r1 : Int), .int .u8 0, .int .u8 (31 + (r2 : Int)), .int .u8 (r3 : Int), .int .u8 0] 5)) := (Below.refl _ _).alloc (Nat.le_refl _) _
          have RL : RowB (w9.alloc (.cells #[.int .u8 (r1 : Int), .int .u8 0, .int .u8 (31 + (r2 : Int)), .int .u8 (r3 : Int), .int .u8 0] 5)) w9.heap.size (.slice (some ⟨w9.heap.size, 0, none⟩) 5 5) [(r1 : Int), 0, 31 + (r2 : Int), (r3 : Int), 0] := World.ownsRow_lit w9 #[.int .u8 (r1 : Int), .int .u8 0, .int .u8 (31 + (r2 : Int)), .int .u8 (r3 : Int), .int .u8 0] 5 (Nat.le_refl _) (by unfold maxLen; omega) (by simp)
          have LB : Byt [(r1 : Int), 0, 31 + (r2 : Int), (r3 : Int), 0] := byt_cons (by omega) (by omega) (byt_cons (by omega) (by omega) (byt_cons (by omega) (by omega) (byt_cons (by omega) (by omega) (byt_cons (by omega) (by omega) byt_nil))))
          have DH : Hid (DdM w1 (w9.alloc (.cells #[.int .u8 (r1 : Int), .int .u8 0, .int .u8 (31 + (r2 : Int)), .int .u8 (r3 : Int), .int .u8 0] 5)) s g a c xs (.slice (some ⟨w9.heap.size, 0, none⟩) 5 5) [(r1 : Int), 0, 31 + (r2 : Int), (r3 : Int), 0] 5 _) := ⟨own_base RL s9, LB, by simp, d9.up na, b9.appM (na.mono s9)⟩
          clear na RL LB d9 b9
          go_wp2
          go_ret2
          exact (POST _ _ _ _ _ _ DH (by decide)).out
end Go.Proofs.YtmmbkkfjiaoeiaaGreat
