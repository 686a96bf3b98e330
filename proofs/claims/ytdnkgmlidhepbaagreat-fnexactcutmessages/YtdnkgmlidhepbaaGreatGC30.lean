import Derived.Test.YtdnkgmlidhepbaaGreatGC21
import Derived.Test.YtdnkgmlidhepbaaGreatGC28
import Derived.Test.YtdnkgmlidhepbaaGreatGC15
import Derived.Test.YtdnkgmlidhepbaaGreatGC13
import Derived.Test.YtdnkgmlidhepbaaGreatGC16
import Derived.Test.YtdnkgmlidhepbaaGreatGC29
import Derived.Test.YtdnkgmlidhepbaaGreatGC22
namespace Go.Proofs.YtdnkgmlidhepbaaGreat
open Go Go.RowKit
def cUpdate : MQ → Msg → List Value := fun _ m => [.int .i64 m.ea]
def nUpdate : MQ → MQ := fun _ => mq0
theorem mfUpdate (xs : List Int) : mfF (rdUpdate xs) = upF (rdUpdate xs).ea := by unfold mfF; simp [kfF, rdUpdate, updateM, msg0, sameM]
set_option maxRecDepth 100000 in
set_option maxHeartbeats 1000000 in
theorem rwUpdate_any (w : World) (q g : Nat) (a : Option Addr) (c : Nat) (xs : List Int) (hq : RwC w q [.int .i64 0] 98) (hr : Rd w g a .u8 xs) (hb : Byt xs) (hgq : 0 < xs.length → g ≠ q) (hc0 : a = none → c = 0) (hc : xs.length ≤ c) (hn : xs.length ≤ 1048576) :
    Calls Tryz.prog 54 #[.iface 96 (.pointer (some ⟨q, 0, none⟩)), .slice a xs.length c] w fun e w' => e = .returned (.bool (decide (mfF (rdUpdate xs) = 0 ∧ bodF (rdUpdate xs) = xs))) ∧ (decide (mfF (rdUpdate xs) = 0 ∧ bodF (rdUpdate xs) = xs) = true → RK cUpdate nUpdate 98 w.heap.size q (rdUpdate xs) w') ∧ Tch [q] w w' := by
  have hfit : bodF (rdM 24 xs) = xs → 1 ≤ xs.length := fun h => fit_rd (k := 24) (by decide) h
  have eB := rwB_is (k := 24) (xs := xs) (fits := 1 ≤ xs.length) hfit
  have isM : IsM (rdUpdate xs) := isM_rd hb 24
  have hql := hq.lt
  rw [show rdM 24 xs = rdUpdate xs from rfl] at eB
  rw [← eB]
  refine readWhole_core w q g a c xs (bodF (rdUpdate xs)) (mfF (rdUpdate xs)) (1 ≤ xs.length) 96 98 [.int .i64 0] 146 145 144 (RK cUpdate nUpdate 98 w.heap.size q (rdUpdate xs)) hq hr hb (byt_rd hb 24) hgq (fun _ _ => by kernel_rfl) (fun _ _ => by kernel_rfl) (fun _ _ => by kernel_rfl) (fun _ _ => by kernel_rfl) (fun _ _ => by kernel_rfl) (fun _ _ => by kernel_rfl) ?_ ?_ ?_ (fun W W' h n => h.up n) (fun W W' h O => h.onl (by omega) O)
  · intro W p hQ hC hqp hpl hR hgp hwp
    refine (updRead_any W q p g a c xs 98 hQ hqp hC hpl hR hb hgp hgq hc0 hc hn).mono ?_
    rintro e W' ⟨⟨hfits, rfl, Q, -⟩ | ⟨hbad, hpan⟩, K⟩
    rotate_left
    · exact ⟨.inr ⟨by omega, hpan⟩, K⟩
    have hql2 := hQ.lt
    have sK : W.heap.size ≤ W'.heap.size := K.size
    exact ⟨.inl ⟨hfits, rfl, mq0, [], fun _ => W.heap.size, (show w.heap.size < W.heap.size by omega), (show q < W.heap.size by omega), Q, ⟨(fun h => absurd h (by simp [rdUpdate])), (fun h => absurd h (by simp [rdUpdate])), nilT _ _, (fun h => absurd h (by simp [rdUpdate])), (fun h => absurd h (by simp [rdUpdate])), BRow.nil _ _, (fun h => absurd h (by simp [rdUpdate])), (fun h => absurd h (by simp [rdUpdate])), (fun h => absurd h (by simp [rdUpdate])), (fun h => absurd h (by simp [rdUpdate])), (fun h => absurd h (by simp [rdUpdate])), (fun h => absurd h (by simp [rdUpdate])), (fun h => absurd h (by simp [rdUpdate])), (fun i h => absurd h (by simp [rdUpdate])), (fun h => absurd h (by simp [rdUpdate])), ⟨Nat.le_refl _, Nat.le_refl _, Nat.le_refl _, Nat.le_refl _, Nat.le_refl _, Nat.le_refl _, Nat.le_refl _⟩, ⟨(fun _ => rfl), (fun _ => rfl), (fun _ => rfl), (fun _ => rfl), (fun _ => rfl), fun i hi => absurd hi (by simp [rdUpdate])⟩, Nat.zero_le _, rfl⟩, rfl⟩, K⟩
  · rintro W ⟨p, bs, F, h1, h2, h3, h4, -⟩
    rw [mfUpdate]
    refine (updateFault_any W q (rdUpdate xs).ea (h3.cell 0)).mono ?_
    rintro e W' ⟨rfl, hw⟩
    exact ⟨rfl, by rw [hw]; exact Below.refl _ _⟩
  · rintro W ⟨p, bs, F, h1, h2, h3, h4, -⟩ f0
    exact updateBody_any W q (rdUpdate xs).ea (h3.cell 0)
end Go.Proofs.YtdnkgmlidhepbaaGreat
namespace Go.Proofs.YtdnkgmlidhepbaaGreat
open Go Go.RowKit
set_option maxRecDepth 20000 in
theorem decode_any (w : World) (mq g : Nat) (a : Option Addr) (c : Nat) (xs : List Int) (at_ : Int) (hm : w.heap[mq]? = some (.map regE 9)) (hr : Rd w g a .u8 xs) (hb : Byt xs) (hz : a = none → c = 0) (hc : xs.length ≤ c) (hx : xs.length ≤ 1048576) :
    Calls Tryz.prog 24 #[.map (some mq), .slice a xs.length c, .int .i64 at_] w fun e w' => DcP w xs at_ e w' := by
  by_cases ho : at_ < 0 ∨ (xs.length : Int) < at_
  · exact decode_out w mq a c xs at_ ho
  obtain ⟨i, rfl⟩ := Int.eq_ofNat_of_zero_le (show 0 ≤ at_ by omega)
  have hi : i ≤ xs.length := by omega
  by_cases hp : dmP (xs.drop i) = 0
  rotate_left
  · exact decode_pre w mq g a c xs i hi hm hr hb hz hc hx hp
  have hk := (dmP_zero hp).2.1
  have : (xs.drop i).getD 0 0 = 1 ∨ (xs.drop i).getD 0 0 = 2 ∨ (xs.drop i).getD 0 0 = 4 ∨ (xs.drop i).getD 0 0 = 5 ∨ (xs.drop i).getD 0 0 = 8 ∨ (xs.drop i).getD 0 0 = 11 ∨ (xs.drop i).getD 0 0 = 15 ∨ (xs.drop i).getD 0 0 = 20 ∨ (xs.drop i).getD 0 0 = 24 := by simpa only [kinds, List.mem_cons, List.not_mem_nil, or_false] using hk
  rcases this with e | e | e | e | e | e | e | e | e
  · exact decode_body w mq g a c xs i hi hm hr hb hz hc hx hp 1 e 44 70 74 [.int .i64 0, .slice none 0 0, .slice none 0 0, .string ⟨#[]⟩, .slice none 0 0, .slice none 0 0, .int .i64 0, .int .i64 0, .slice none 0 0] cHello nHello rfl (fun _ _ => by kernel_rfl) newHello_any (fun w q g a c ys h1 h2 h3 h4 h5 h6 h7 => rwHello_any w q g a c ys h1 h2 h3 h4 h5 h6 h7) (fun W q p ys hn h => by rw [← hn] at h ⊢; exact plainHello_any (h := h))
  · exact decode_body w mq g a c xs i hi hm hr hb hz hc hx hp 2 e 45 76 78 [.int .i64 0, .slice none 0 0, .slice none 0 0, .bool false] cAnswer nAnswer rfl (fun _ _ => by kernel_rfl) newAnswer_any (fun w q g a c ys h1 h2 h3 h4 h5 h6 h7 => rwAnswer_any w q g a c ys h1 h2 h3 h4 h5 h6 h7) (fun W q p ys hn h => by rw [← hn] at h ⊢; exact plainAnswer_any (h := h))
  · exact decode_body w mq g a c xs i hi hm hr hb hz hc hx hp 4 e 46 79 81 [.int .i64 0, .int .i64 0, .slice none 0 0, .slice none 0 0] cTicket nTicket rfl (fun _ _ => by kernel_rfl) newTicket_any (fun w q g a c ys h1 h2 h3 h4 h5 h6 h7 => rwTicket_any w q g a c ys h1 h2 h3 h4 h5 h6 h7) (fun W q p ys hn h => by rw [← hn] at h ⊢; exact plainTicket_any (h := h))
  · exact decode_body w mq g a c xs i hi hm hr hb hz hc hx hp 5 e 47 82 84 [] cEnd nEnd rfl (fun _ _ => by kernel_rfl) newEnd_any (fun w q g a c ys h1 h2 h3 h4 h5 h6 h7 => rwEnd_any w q g a c ys h1 h2 h3 h4 h5 h6 h7) (fun W q p ys hn _ => by rw [← hn]; exact plainEnd_any W (.pointer (some ⟨q, 0, none⟩)))
  · exact decode_body w mq g a c xs i hi hm hr hb hz hc hx hp 8 e 48 85 87 [.slice none 0 0, .int .i64 0] cExtras nExtras rfl (fun _ _ => by kernel_rfl) newExtras_any (fun w q g a c ys h1 h2 h3 h4 h5 h6 h7 => rwExtras_any w q g a c ys h1 h2 h3 h4 h5 h6 h7) (fun W q p ys hn h => by rw [← hn] at h ⊢; exact plainExtras_any (h := h))
  · exact decode_body w mq g a c xs i hi hm hr hb hz hc hx hp 11 e 49 88 90 [.slice none 0 0] cCerts nCerts rfl (fun _ _ => by kernel_rfl) newCerts_any (fun w q g a c ys h1 h2 h3 h4 h5 h6 h7 => rwCerts_any w q g a c ys h1 h2 h3 h4 h5 h6 h7) (fun W q p ys hn h => by rw [← hn] at h ⊢; exact plainCerts_any (h := h))
  · exact decode_body w mq g a c xs i hi hm hr hb hz hc hx hp 15 e 50 91 93 [.slice none 0 0] cProof nProof rfl (fun _ _ => by kernel_rfl) newProof_any (fun w q g a c ys h1 h2 h3 h4 h5 h6 h7 => rwProof_any w q g a c ys h1 h2 h3 h4 h5 h6 h7) (fun W q p ys hn h => by rw [← hn] at h ⊢; exact plainProof_any (h := h))
  · exact decode_body w mq g a c xs i hi hm hr hb hz hc hx hp 20 e 51 94 95 [.slice none 0 0] cFinished nFinished rfl (fun _ _ => by kernel_rfl) newFinished_any (fun w q g a c ys h1 h2 h3 h4 h5 h6 h7 => rwFinished_any w q g a c ys h1 h2 h3 h4 h5 h6 h7) (fun W q p ys hn h => by rw [← hn] at h ⊢; exact plainFinished_any (h := h))
  · exact decode_body w mq g a c xs i hi hm hr hb hz hc hx hp 24 e 52 96 98 [.int .i64 0] cUpdate nUpdate rfl (fun _ _ => by kernel_rfl) newUpdate_any (fun w q g a c ys h1 h2 h3 h4 h5 h6 h7 => rwUpdate_any w q g a c ys h1 h2 h3 h4 h5 h6 h7) (fun W q p ys hn h => by rw [← hn] at h ⊢; exact plainUpdate_any (h := h))
end Go.Proofs.YtdnkgmlidhepbaaGreat
namespace Go.Proofs.YtdnkgmlidhepbaaGreat
open Go Go.RowKit
theorem specDM_new (w : World) (g : Nat) (a : Option Addr) (c : Nat) (xs : List Int) (at_ : Int) (hr : Rd w g a .u8 xs) (hb : Byt xs) (hz : a = none → c = 0) (hc : xs.length ≤ c) (hx : xs.length ≤ 1048576) :
    Calls Tryz.prog 5 #[.slice a xs.length c, .int .i64 at_] w fun e w' => (∃ p, e = .returned (.agg (rsV (dmC xs at_) p (dmR xs at_) (dmE xs at_))) ∧ HasM w' p (dmR xs at_) ∧ ∀ b, b < w.heap.size → NoM b p (dmR xs at_)) ∧ Below w.heap.size w w' := by
  by_cases ho : at_ < 0 ∨ (xs.length : Int) < at_
  · exact specDM_out w a c xs at_ hx ho
  obtain ⟨i, rfl⟩ := Int.eq_ofNat_of_zero_le (show 0 ≤ at_ by omega)
  by_cases hp : dmP (xs.drop i) = 0
  · exact specDM_body w g a c xs i (by omega) hr hb hz hc hx hp
  · exact specDM_pre w g a c xs i (by omega) hr hb hz hc hx hp
theorem isM_dm {xs : List Int} (hb : Byt xs) (at_ : Int) : IsM (dmR xs at_) := by
  unfold dmR
  split
  · exact isM_rd (dmX_byt (byt_drop hb _)) _
  · exact isM0
end Go.Proofs.YtdnkgmlidhepbaaGreat
namespace Go.Proofs.YtdnkgmlidhepbaaGreat
open Go Go.RowKit
theorem RwC.partD {w : World} {q : Nat} {cs : List Value} {t : TypeId} (h : RwC w q cs t) (o : Nat) (l : List Value) (hl : (cs.drop o).take l.length = l) : w.rangeAt q o l := fun j v hj => by
  rw [h.cell (o + j)]
  rw [← hl] at hj
  rw [List.getElem?_take] at hj
  split at hj
  · rw [List.getElem?_drop] at hj
    exact hj
  · cases hj
theorem sm_dm {xs : List Int} (at_ : Int) : SmM (dmR xs at_) := by
  unfold dmR
  split
  rotate_left
  · exact ⟨by simp [msg0], by simp [msg0], fun i hi => absurd hi (by simp [msg0]), by simp [msg0]⟩
  rename_i h
  unfold dmC at h
  split at h
  · simp at h
  split at h
  · rename_i h1 h2
    exact absurd h h2
  rename_i ho hp
  split at h
  rotate_left
  · simp at h
  rename_i hg
  have hp : dmP (xs.drop at_.toNat) = 0 := Decidable.not_not.1 hp
  have f0 : mfF (dmM (xs.drop at_.toNat)) = 0 := by
    unfold dmG at hg
    exact (of_decide_eq_true hg).1
  have hk := (dmP_zero hp).2.1
  generalize xs.drop at_.toNat = ys at *
  unfold dmM at f0 ⊢
  generalize dmX ys = zs at *
  generalize ys.getD 0 0 = k at *
  have : k = 1 ∨ k = 2 ∨ k = 4 ∨ k = 5 ∨ k = 8 ∨ k = 11 ∨ k = 15 ∨ k = 20 ∨ k = 24 := by simpa only [kinds, List.mem_cons, List.not_mem_nil, or_false] using hk
  rcases this with e | e | e | e | e | e | e | e | e <;> subst e
  · have f1 : mfF (rdHello zs) = 0 := f0
    rw [mfHello] at f1
    have l5 := he_pr f1
    have l6 : (rdHello zs).ti.length ≤ 400 := by
      unfold heF at f1
      split at f1
      · simp at f1
      split at f1
      · simp at f1
      split at f1
      · simp at f1
      split at f1
      · simp at f1
      omega
    have l2 : (rdHello zs).r.length = 32 := tkB_len _ _ _
    have l3 : (rdHello zs).s.length = 32 := tkB_len _ _ _
    have l9 : (rdHello zs).bi.length ≤ 32 := by
      show (if hpN zs = 0 then [] else tkB zs (hpC zs + 5) 32 : List Int).length ≤ 32
      split
      · simp
      · rw [tkB_len]; omega
    refine ⟨?_, Nat.zero_le _, fun i hi => absurd hi (by simp [rdM, rdHello]), Nat.zero_le _⟩
    show (rdHello zs).r.length + (rdHello zs).s.length + (rdHello zs).pr.length + (rdHello zs).ti.length + (rdHello zs).bi.length ≤ 900
    omega
  · refine ⟨?_, Nat.zero_le _, fun i hi => absurd hi (by simp [rdM, rdAnswer]), Nat.zero_le _⟩
    show (tkB zs 1 32).length + (tkB zs 33 32).length + 0 + 0 + 0 ≤ 900
    rw [tkB_len, tkB_len]
    omega
  · have f1 : mfF (rdTicket zs) = 0 := f0
    rw [mfTicket] at f1
    have l6 : (rdTicket zs).ti.length ≤ 400 := by
      unfold tiF at f1
      split at f1
      · simp at f1
      split at f1
      · simp at f1
      omega
    refine ⟨?_, Nat.zero_le _, fun i hi => absurd hi (by simp [rdM, rdTicket]), Nat.zero_le _⟩
    show (tkB zs 8 32).length + 0 + 0 + (rdTicket zs).ti.length + 0 ≤ 900
    rw [tkB_len]
    omega
  · exact ⟨by simp [rdM, rdEnd], by simp [rdM, rdEnd], fun i hi => absurd hi (by simp [rdM, rdEnd]), by simp [rdM, rdEnd]⟩
  · have f1 : mfF (rdExtras zs) = 0 := f0
    rw [mfExtras] at f1
    have l5 := ex_pr f1
    refine ⟨?_, Nat.zero_le _, fun i hi => absurd hi (by simp [rdM, rdExtras]), Nat.zero_le _⟩
    show 0 + 0 + (rdExtras zs).pr.length + 0 + 0 ≤ 900
    omega
  · have f1 : mfF (rdCerts zs) = 0 := f0
    rw [mfCerts] at f1
    have l5 := ce_n f1
    refine ⟨Nat.zero_le _, ?_, fun i hi => ?_, Nat.zero_le _⟩
    · show (rdCerts zs).ce.length ≤ 1000
      omega
    · have hA : ctA (rdCerts zs).ce = false := by
        unfold ceF at f1
        split at f1
        · simp at f1
        split at f1
        · simp at f1
        split at f1
        · simp at f1
        · rename_i h; simpa using h
      have hi : i < (rdCerts zs).ce.length := hi
      by_cases hO : ctO ((rdCerts zs).ce.getD i []).length = true
      · rw [ctA_yes hi hO] at hA
        cases hA
      · show ((rdCerts zs).ce.getD i []).length ≤ 2048
        clear hi
        generalize ((rdCerts zs).ce.getD i []).length = L at *
        unfold ctO at hO
        simp at hO
        omega
  · refine ⟨Nat.zero_le _, Nat.zero_le _, fun i hi => absurd hi (by simp [rdM, rdProof]), ?_⟩
    show (tkB zs 0 64).length ≤ _
    rw [tkB_len]
    omega
  · refine ⟨Nat.zero_le _, Nat.zero_le _, fun i hi => absurd hi (by simp [rdM, rdFinished]), ?_⟩
    show (tkB zs 0 32).length ≤ _
    rw [tkB_len]
    omega
  · exact ⟨by simp [rdM, rdUpdate], by simp [rdM, rdUpdate], fun i hi => absurd hi (by simp [rdM, rdUpdate]), by simp [rdM, rdUpdate]⟩
end Go.Proofs.YtdnkgmlidhepbaaGreat
