import Derived.Test.YtflecleofaeiiaaGreatGD21
import Derived.Test.YtflecleofaeiiaaGreatGD28
import Derived.Test.YtflecleofaeiiaaGreatGD6
import Derived.Test.YtflecleofaeiiaaGreatGD7
import Derived.Test.YtflecleofaeiiaaGreatGD29
import Derived.Test.YtflecleofaeiiaaGreatGD22

/-
  Messages: the program's readWhole of kind 24 (written by gens/mcx.py).
-/
namespace Go.Proofs.YtflecleofaeiiaaGreat
open Go Go.RowKit

/-- What a typed message of this kind holds. -/
def cUpdate : MQ → Msg → List Value := fun _ m => [.int .i64 m.ea]
/-- Where such a message's lists lie, and no others. -/
def nUpdate : MQ → MQ := fun _ => mq0
theorem mfUpdate (xs : List Int) : mfF (rdUpdate xs) = upF (rdUpdate xs).ea := by unfold mfF; simp [kfF, rdUpdate, updateM, msg0, sameM]
set_option maxRecDepth 100000 in
set_option maxHeartbeats 1000000 in
theorem rwUpdate_any (w : World) (q g : Nat) (a : Option Addr) (c : Nat) (xs : List Int) (hq : RwC w q [.int .i64 0] 98) (hr : Rd w g a .u8 xs) (hb : Byt xs) (hgq : 0 < xs.length → g ≠ q) (hc0 : a = none → c = 0) (hc : xs.length ≤ c) (hn : xs.length ≤ 1048576) :
    Calls Tryz.prog 54 #[.iface 96 (.pointer (some ⟨q, 0, none⟩)), .slice a xs.length c] w fun e w' => e = .returned (.bool (decide (mfF (rdUpdate xs) = 0 ∧ bodF (rdUpdate xs) = xs))) ∧ (decide (mfF (rdUpdate xs) = 0 ∧ bodF (rdUpdate xs) = xs) = true → RK cUpdate nUpdate 98 w.heap.size q (rdUpdate xs) w') ∧ Tch [q] w w' := by
  have hfit : bodF (rdM 24 xs) = xs → 1 ≤ xs.length := fun h => fit_rd (k := 24) (by decide) h
  have eB := rwB_is (k := 24) (xs := xs) (fits := 1 ≤ xs.length) hfit
  have isM : IsM (rdUpdate xs) := isM_rd hb 24
  have hql := hq.lt
  rw [show rdM 24 xs = rdUpdate xs from rfl] at eB
  rw [← eB]
  refine readWhole_core w q g a c xs (bodF (rdUpdate xs)) (mfF (rdUpdate xs)) (1 ≤ xs.length) 96 98 [.int .i64 0] 146 145 144 (RK cUpdate nUpdate 98 w.heap.size q (rdUpdate xs)) hq hr hb (byt_rd hb 24) hgq (fun _ _ => by kernel_rfl) (fun _ _ => by kernel_rfl) (fun _ _ => by kernel_rfl) (fun _ _ => by kernel_rfl) (fun _ _ => by kernel_rfl) (fun _ _ => by kernel_rfl) ?_ ?_ ?_ (fun W W' h n => h.up n) (fun W W' h O => h.onl (by omega) O)
  · intro W p hQ hC hqp hpl hR hgp hwp
    refine (updRead_any W q p g a c xs 98 hQ hqp hC hpl hR hb hgp hgq hc0 hc hn).mono ?_
    rintro e W' ⟨⟨hfits, rfl, Q, -⟩ | ⟨hbad, hpan⟩, K⟩
    rotate_left
    · exact ⟨.inr ⟨by omega, hpan⟩, K⟩
    have hql2 := hQ.lt
    have sK : W.heap.size ≤ W'.heap.size := K.size
    exact ⟨.inl ⟨hfits, rfl, mq0, [], fun _ => W.heap.size, (show w.heap.size < W.heap.size by omega), (show q < W.heap.size by omega), Q, ⟨(fun h => absurd h (by simp [rdUpdate])), (fun h => absurd h (by simp [rdUpdate])), nilT _ _, (fun h => absurd h (by simp [rdUpdate])), (fun h => absurd h (by simp [rdUpdate])), BRow.nil _ _, (fun h => absurd h (by simp [rdUpdate])), (fun h => absurd h (by simp [rdUpdate])), (fun h => absurd h (by simp [rdUpdate])), (fun h => absurd h (by simp [rdUpdate])), (fun h => absurd h (by simp [rdUpdate])), (fun h => absurd h (by simp [rdUpdate])), (fun h => absurd h (by simp [rdUpdate])), (fun i h => absurd h (by simp [rdUpdate])), (fun h => absurd h (by simp [rdUpdate])), ⟨Nat.le_refl _, Nat.le_refl _, Nat.le_refl _, Nat.le_refl _, Nat.le_refl _, Nat.le_refl _, Nat.le_refl _⟩, ⟨(fun _ => rfl), (fun _ => rfl), (fun _ => rfl), (fun _ => rfl), (fun _ => rfl), fun i hi => absurd hi (by simp [rdUpdate])⟩, Nat.zero_le _, rfl⟩, rfl⟩, K⟩
  · rintro W ⟨p, bs, F, h1, h2, h3, h4, -⟩
    rw [mfUpdate]
    refine (updateFault_any W q (rdUpdate xs).ea (h3.cell 0)).mono ?_
    rintro e W' ⟨rfl, hw⟩
    exact ⟨rfl, by rw [hw]; exact Below.refl _ _⟩
  · rintro W ⟨p, bs, F, h1, h2, h3, h4, -⟩ f0
    exact updateBody_any W q (rdUpdate xs).ea (h3.cell 0)
end Go.Proofs.YtflecleofaeiiaaGreat

/-
  Messages: the program's decode and DecodeMessage.
-/
namespace Go.Proofs.YtflecleofaeiiaaGreat
open Go Go.RowKit

set_option maxRecDepth 20000 in
theorem decode_any (w : World) (mq g : Nat) (a : Option Addr) (c : Nat) (xs : List Int) (at_ : Int) (hm : w.heap[mq]? = some (.map regE 9)) (hr : Rd w g a .u8 xs) (hb : Byt xs) (hz : a = none → c = 0) (hc : xs.length ≤ c) (hx : xs.length ≤ 1048576) :
    Calls Tryz.prog 24 #[.map (some mq), .slice a xs.length c, .int .i64 at_] w fun e w' => DcP w xs at_ e w' := by
  by_cases ho : at_ < 0 ∨ (xs.length : Int) < at_
  · exact decode_out w mq a c xs at_ ho
  obtain ⟨i, rfl⟩ := Int.eq_ofNat_of_zero_le (show 0 ≤ at_ by omega)
  have hi : i ≤ xs.length := by omega
  by_cases hp : dmP (xs.drop i) = 0
  rotate_left
  · exact decode_pre w mq g a c xs i hi hm hr hb hz hc hx hp
  have hk := (dmP_zero hp).2.1
  have : (xs.drop i).getD 0 0 = 1 ∨ (xs.drop i).getD 0 0 = 2 ∨ (xs.drop i).getD 0 0 = 4 ∨ (xs.drop i).getD 0 0 = 5 ∨ (xs.drop i).getD 0 0 = 8 ∨ (xs.drop i).getD 0 0 = 11 ∨ (xs.drop i).getD 0 0 = 15 ∨ (xs.drop i).getD 0 0 = 20 ∨ (xs.drop i).getD 0 0 = 24 := by simpa only [kinds, List.mem_cons, List.not_mem_nil, or_false] using hk
  rcases this with e | e | e | e | e | e | e | e | e
  · exact decode_body w mq g a c xs i hi hm hr hb hz hc hx hp 1 e 44 70 74 [.int .i64 0, .slice none 0 0, .slice none 0 0, .string ⟨#[]⟩, .slice none 0 0, .slice none 0 0, .int .i64 0, .int .i64 0, .slice none 0 0] cHello nHello rfl (fun _ _ => by kernel_rfl) newHello_any (fun w q g a c ys h1 h2 h3 h4 h5 h6 h7 => rwHello_any w q g a c ys h1 h2 h3 h4 h5 h6 h7) (fun W q p ys hn h => by rw [← hn] at h ⊢; exact plainHello_any (h := h))
  · exact decode_body w mq g a c xs i hi hm hr hb hz hc hx hp 2 e 45 76 78 [.int .i64 0, .slice none 0 0, .slice none 0 0, .bool false] cAnswer nAnswer rfl (fun _ _ => by kernel_rfl) newAnswer_any (fun w q g a c ys h1 h2 h3 h4 h5 h6 h7 => rwAnswer_any w q g a c ys h1 h2 h3 h4 h5 h6 h7) (fun W q p ys hn h => by rw [← hn] at h ⊢; exact plainAnswer_any (h := h))
  · exact decode_body w mq g a c xs i hi hm hr hb hz hc hx hp 4 e 46 79 81 [.int .i64 0, .int .i64 0, .slice none 0 0, .slice none 0 0] cTicket nTicket rfl (fun _ _ => by kernel_rfl) newTicket_any (fun w q g a c ys h1 h2 h3 h4 h5 h6 h7 => rwTicket_any w q g a c ys h1 h2 h3 h4 h5 h6 h7) (fun W q p ys hn h => by rw [← hn] at h ⊢; exact plainTicket_any (h := h))
  · exact decode_body w mq g a c xs i hi hm hr hb hz hc hx hp 5 e 47 82 84 [] cEnd nEnd rfl (fun _ _ => by kernel_rfl) newEnd_any (fun w q g a c ys h1 h2 h3 h4 h5 h6 h7 => rwEnd_any w q g a c ys h1 h2 h3 h4 h5 h6 h7) (fun W q p ys hn _ => by rw [← hn]; exact plainEnd_any W (.pointer (some ⟨q, 0, none⟩)))
  · exact decode_body w mq g a c xs i hi hm hr hb hz hc hx hp 8 e 48 85 87 [.slice none 0 0, .int .i64 0] cExtras nExtras rfl (fun _ _ => by kernel_rfl) newExtras_any (fun w q g a c ys h1 h2 h3 h4 h5 h6 h7 => rwExtras_any w q g a c ys h1 h2 h3 h4 h5 h6 h7) (fun W q p ys hn h => by rw [← hn] at h ⊢; exact plainExtras_any (h := h))
  · exact decode_body w mq g a c xs i hi hm hr hb hz hc hx hp 11 e 49 88 90 [.slice none 0 0] cCerts nCerts rfl (fun _ _ => by kernel_rfl) newCerts_any (fun w q g a c ys h1 h2 h3 h4 h5 h6 h7 => rwCerts_any w q g a c ys h1 h2 h3 h4 h5 h6 h7) (fun W q p ys hn h => by rw [← hn] at h ⊢; exact plainCerts_any (h := h))
  · exact decode_body w mq g a c xs i hi hm hr hb hz hc hx hp 15 e 50 91 93 [.slice none 0 0] cProof nProof rfl (fun _ _ => by kernel_rfl) newProof_any (fun w q g a c ys h1 h2 h3 h4 h5 h6 h7 => rwProof_any w q g a c ys h1 h2 h3 h4 h5 h6 h7) (fun W q p ys hn h => by rw [← hn] at h ⊢; exact plainProof_any (h := h))
  · exact decode_body w mq g a c xs i hi hm hr hb hz hc hx hp 20 e 51 94 95 [.slice none 0 0] cFinished nFinished rfl (fun _ _ => by kernel_rfl) newFinished_any (fun w q g a c ys h1 h2 h3 h4 h5 h6 h7 => rwFinished_any w q g a c ys h1 h2 h3 h4 h5 h6 h7) (fun W q p ys hn h => by rw [← hn] at h ⊢; exact plainFinished_any (h := h))
  · exact decode_body w mq g a c xs i hi hm hr hb hz hc hx hp 24 e 52 96 98 [.int .i64 0] cUpdate nUpdate rfl (fun _ _ => by kernel_rfl) newUpdate_any (fun w q g a c ys h1 h2 h3 h4 h5 h6 h7 => rwUpdate_any w q g a c ys h1 h2 h3 h4 h5 h6 h7) (fun W q p ys hn h => by rw [← hn] at h ⊢; exact plainUpdate_any (h := h))
end Go.Proofs.YtflecleofaeiiaaGreat

/-
  Messages: the program's DecodeMessage.
-/
namespace Go.Proofs.YtflecleofaeiiaaGreat
open Go Go.RowKit

set_option maxRecDepth 20000 in
set_option maxHeartbeats 1000000 in
theorem implDM_any (w : World) (g : Nat) (a : Option Addr) (c : Nat) (xs : List Int) (at_ : Int) (hr : Rd w g a .u8 xs) (hb : Byt xs) (hz : a = none → c = 0) (hc : xs.length ≤ c) (hx : xs.length ≤ 1048576) :
    Calls Tryz.prog 7 #[.slice a xs.length c, .int .i64 at_] w fun e w' => DcP w xs at_ e w' := by
  have Z : RwC (w.alloc (.cells #[.int .i64 0, .int .i64 0, .int .i64 0, .slice none 0 0, .slice none 0 0, .string ⟨#[]⟩, .slice none 0 0, .slice none 0 0, .int .i64 0, .int .i64 0, .slice none 0 0, .bool false, .slice none 0 0, .slice none 0 0, .int .i64 0] 28)) w.heap.size [.int .i64 0, .int .i64 0, .int .i64 0, .slice none 0 0, .slice none 0 0, .string ⟨#[]⟩, .slice none 0 0, .slice none 0 0, .int .i64 0, .int .i64 0, .slice none 0 0, .bool false, .slice none 0 0, .slice none 0 0, .int .i64 0] 28 := RwC.new w _ _
  have N : Below w.heap.size w (w.alloc (.cells #[.int .i64 0, .int .i64 0, .int .i64 0, .slice none 0 0, .slice none 0 0, .string ⟨#[]⟩, .slice none 0 0, .slice none 0 0, .int .i64 0, .int .i64 0, .slice none 0 0, .bool false, .slice none 0 0, .slice none 0 0, .int .i64 0] 28)) := (Below.refl _ _).alloc (Nat.le_refl _) _
  obtain ⟨d15, hd15, hrow15⟩ := rowMR
  have DC := hide (fun (W : World) (mq : Nat) (hm : W.heap[mq]? = some (.map regE 9)) (n : Below w.heap.size w W) => decode_any W mq g a c xs at_ hm (hr.up n) hb hz hc hx)
  clear hr hb hz hc hx
  go_enter Tryz.func7, Tryz.ntmps7
  go_upto_region 1 with fail
  generalize w.alloc (.cells #[.int .i64 0, .int .i64 0, .int .i64 0, .slice none 0 0, .slice none 0 0, .string ⟨#[]⟩, .slice none 0 0, .slice none 0 0, .int .i64 0, .int .i64 0, .slice none 0 0, .bool false, .slice none 0 0, .slice none 0 0, .int .i64 0] 28) = W at *
  go_wp2_with fail
  refine (messageKinds_any W).mono ?_
  rintro e W1 ⟨rfl, hm, n1⟩
  have Z1 := Z.up n1
  have N1 := nxt N n1
  have lw := Z.lt
  have DD := hide (DC.out W1 W.heap.size hm N1)
  have s1 := n1.size
  clear Z N n1 hm DC
  go_wp2_with fail
  refine DD.out.mono ?_
  rintro e W2 ⟨⟨p, bs, F, rfl, hF, hA⟩, n2⟩
  have Z2 := Z1.up n2
  have N2 := nxt N1 n2
  clear Z1 N1 n2 DD
  obtain ⟨cd, hcd⟩ : ∃ x, Hid (dmC xs at_ = x) := ⟨_, rfl⟩
  obtain ⟨m, hmm⟩ : ∃ x, Hid (dmR xs at_ = x) := ⟨_, rfl⟩
  obtain ⟨nx, hnx⟩ : ∃ x, Hid (dmE xs at_ = x) := ⟨_, rfl⟩
  rw [hmm.out] at hA
  rw [hcd.out, hmm.out, hnx.out]
  unfold rsV
  have THR := Z2.thereG
  have OQ := only_setG W2 w.heap.size [.int .i64 cd, .int .i64 m.k, .int .i64 m.v, .slice p.a2 m.r.length p.c2, .slice p.a3 m.s.length p.c3, .string ⟨⟨m.ho⟩⟩, .slice p.a5 m.pr.length p.c5, .slice p.a6 m.ti.length p.c6, .int .i64 m.ag, .int .i64 m.ea, .slice p.a9 m.bi.length p.c9, .bool m.rs, .slice p.a11 m.ce.length p.c11, .slice p.a12 m.pf.length p.c12, .int .i64 nx] 0
  have RR := World.rangeAt_setCells_same W2 w.heap.size 0 [.int .i64 cd, .int .i64 m.k, .int .i64 m.v, .slice p.a2 m.r.length p.c2, .slice p.a3 m.s.length p.c3, .string ⟨⟨m.ho⟩⟩, .slice p.a5 m.pr.length p.c5, .slice p.a6 m.ti.length p.c6, .int .i64 m.ag, .int .i64 m.ea, .slice p.a9 m.bi.length p.c9, .bool m.rs, .slice p.a11 m.ce.length p.c11, .slice p.a12 m.pf.length p.c12, .int .i64 nx] THR
  have RES : Hid (DcP w xs at_ (Ending.returned (.agg #[.int .i64 cd, .int .i64 m.k, .int .i64 m.v, .slice p.a2 m.r.length p.c2, .slice p.a3 m.s.length p.c3, .string ⟨⟨m.ho⟩⟩, .slice p.a5 m.pr.length p.c5, .slice p.a6 m.ti.length p.c6, .int .i64 m.ag, .int .i64 m.ea, .slice p.a9 m.bi.length p.c9, .bool m.rs, .slice p.a11 m.ce.length p.c11, .slice p.a12 m.pf.length p.c12, .int .i64 nx])) (W2.setCells w.heap.size 0 [.int .i64 cd, .int .i64 m.k, .int .i64 m.v, .slice p.a2 m.r.length p.c2, .slice p.a3 m.s.length p.c3, .string ⟨⟨m.ho⟩⟩, .slice p.a5 m.pr.length p.c5, .slice p.a6 m.ti.length p.c6, .int .i64 m.ag, .int .i64 m.ea, .slice p.a9 m.bi.length p.c9, .bool m.rs, .slice p.a11 m.ce.length p.c11, .slice p.a12 m.pf.length p.c12, .int .i64 nx])) := by
    show DcP _ _ _ _ _
    unfold DcP
    rw [hcd.out, hmm.out, hnx.out]
    exact ⟨⟨p, bs, F, rfl, by omega, hA.onl OQ (by omega)⟩, N2.trans (OQ.below (Nat.le_refl _))⟩
  have ON : (#[.int .i64 cd, .int .i64 m.k, .int .i64 m.v, .slice p.a2 m.r.length p.c2, .slice p.a3 m.s.length p.c3, .string ⟨⟨m.ho⟩⟩, .slice p.a5 m.pr.length p.c5, .slice p.a6 m.ti.length p.c6, .int .i64 m.ag, .int .i64 m.ea, .slice p.a9 m.bi.length p.c9, .bool m.rs, .slice p.a11 m.ce.length p.c11, .slice p.a12 m.pf.length p.c12, .int .i64 nx] : Array Value).all (·.oneCell') = true := one15m cd p m nx
  clear OQ Z2 N2 hA
  go_wp2_with (refine wpList_store_mid rfl 28 (.tmp 4) (.tmp 8) rfl w.heap.size 0 #[.int .i64 cd, .int .i64 m.k, .int .i64 m.v, .slice p.a2 m.r.length p.c2, .slice p.a3 m.s.length p.c3, .string ⟨⟨m.ho⟩⟩, .slice p.a5 m.pr.length p.c5, .slice p.a6 m.ti.length p.c6, .int .i64 m.ag, .int .i64 m.ea, .slice p.a9 m.bi.length p.c9, .bool m.rs, .slice p.a11 m.ce.length p.c11, .slice p.a12 m.pf.length p.c12, .int .i64 nx] rfl rfl THR iMR ON ?_)
  exact bodyPost_ret (v := .agg #[.int .i64 cd, .int .i64 m.k, .int .i64 m.v, .slice p.a2 m.r.length p.c2, .slice p.a3 m.s.length p.c3, .string ⟨⟨m.ho⟩⟩, .slice p.a5 m.pr.length p.c5, .slice p.a6 m.ti.length p.c6, .int .i64 m.ag, .int .i64 m.ea, .slice p.a9 m.bi.length p.c9, .bool m.rs, .slice p.a11 m.ce.length p.c11, .slice p.a12 m.pf.length p.c12, .int .i64 nx]) (results_cellG Tryz.results7 _ _ w.heap.size _ d15 rfl RR hd15 hrow15 iMR) rfl RES.out
/-- The model's, whatever is asked. -/
theorem specDM_any (w : World) (g : Nat) (a : Option Addr) (c : Nat) (xs : List Int) (at_ : Int) (hr : Rd w g a .u8 xs) (hb : Byt xs) (hz : a = none → c = 0) (hc : xs.length ≤ c) (hx : xs.length ≤ 1048576) :
    Calls Tryz.prog 5 #[.slice a xs.length c, .int .i64 at_] w fun e w' => (∃ p, e = .returned (.agg (rsV (dmC xs at_) p (dmR xs at_) (dmE xs at_))) ∧ HasM w' p (dmR xs at_)) ∧ Below w.heap.size w w' := by
  by_cases ho : at_ < 0 ∨ (xs.length : Int) < at_
  · exact specDM_out w a c xs at_ hx ho
  obtain ⟨i, rfl⟩ := Int.eq_ofNat_of_zero_le (show 0 ≤ at_ by omega)
  by_cases hp : dmP (xs.drop i) = 0
  · exact specDM_body w g a c xs i (by omega) hr hb hz hc hx hp
  · exact specDM_pre w g a c xs i (by omega) hr hb hz hc hx hp
theorem isM_dm {xs : List Int} (hb : Byt xs) (at_ : Int) : IsM (dmR xs at_) := by
  unfold dmR
  split
  · exact isM_rd (dmX_byt (byt_drop hb _)) _
  · exact isM0
end Go.Proofs.YtflecleofaeiiaaGreat

/-
  The laws' helpers on what DecodeMessage answers.
-/
namespace Go.Proofs.YtflecleofaeiiaaGreat
open Go Go.RowKit

theorem RwC.partD {w : World} {q : Nat} {cs : List Value} {t : TypeId} (h : RwC w q cs t) (o : Nat) (l : List Value) (hl : (cs.drop o).take l.length = l) : w.rangeAt q o l := fun j v hj => by
  rw [h.cell (o + j)]
  rw [← hl] at hj
  rw [List.getElem?_take] at hj
  split at hj
  · rw [List.getElem?_drop] at hj
    exact hj
  · cases hj
set_option maxRecDepth 100000 in
set_option maxHeartbeats 2000000 in
theorem eqMR_same (w : World) (p q : MQ) (m : Msg) (cd nx : Int) (hp : HasM w p m) (hq : HasM w q m) (i : IsM m) :
    Calls Tryz.prog 8 #[.agg (rsV cd p m nx), .agg (rsV cd q m nx)] w fun e w' => e = .returned (.bool true) ∧ Below w.heap.size w w' := by
  have n1 : Below w.heap.size w (w.alloc (.cells #[.int .i64 cd, .int .i64 m.k, .int .i64 m.v, .slice p.a2 m.r.length p.c2, .slice p.a3 m.s.length p.c3, .string ⟨⟨m.ho⟩⟩, .slice p.a5 m.pr.length p.c5, .slice p.a6 m.ti.length p.c6, .int .i64 m.ag, .int .i64 m.ea, .slice p.a9 m.bi.length p.c9, .bool m.rs, .slice p.a11 m.ce.length p.c11, .slice p.a12 m.pf.length p.c12, .int .i64 nx] 28)) := (Below.refl _ _).alloc (Nat.le_refl _) _
  have A1 : RwC (w.alloc (.cells #[.int .i64 cd, .int .i64 m.k, .int .i64 m.v, .slice p.a2 m.r.length p.c2, .slice p.a3 m.s.length p.c3, .string ⟨⟨m.ho⟩⟩, .slice p.a5 m.pr.length p.c5, .slice p.a6 m.ti.length p.c6, .int .i64 m.ag, .int .i64 m.ea, .slice p.a9 m.bi.length p.c9, .bool m.rs, .slice p.a11 m.ce.length p.c11, .slice p.a12 m.pf.length p.c12, .int .i64 nx] 28)) w.heap.size [.int .i64 cd, .int .i64 m.k, .int .i64 m.v, .slice p.a2 m.r.length p.c2, .slice p.a3 m.s.length p.c3, .string ⟨⟨m.ho⟩⟩, .slice p.a5 m.pr.length p.c5, .slice p.a6 m.ti.length p.c6, .int .i64 m.ag, .int .i64 m.ea, .slice p.a9 m.bi.length p.c9, .bool m.rs, .slice p.a11 m.ce.length p.c11, .slice p.a12 m.pf.length p.c12, .int .i64 nx] 28 := RwC.new w _ _
  have n2 : Below w.heap.size w ((w.alloc (.cells #[.int .i64 cd, .int .i64 m.k, .int .i64 m.v, .slice p.a2 m.r.length p.c2, .slice p.a3 m.s.length p.c3, .string ⟨⟨m.ho⟩⟩, .slice p.a5 m.pr.length p.c5, .slice p.a6 m.ti.length p.c6, .int .i64 m.ag, .int .i64 m.ea, .slice p.a9 m.bi.length p.c9, .bool m.rs, .slice p.a11 m.ce.length p.c11, .slice p.a12 m.pf.length p.c12, .int .i64 nx] 28)).alloc (.cells #[.int .i64 cd, .int .i64 m.k, .int .i64 m.v, .slice q.a2 m.r.length q.c2, .slice q.a3 m.s.length q.c3, .string ⟨⟨m.ho⟩⟩, .slice q.a5 m.pr.length q.c5, .slice q.a6 m.ti.length q.c6, .int .i64 m.ag, .int .i64 m.ea, .slice q.a9 m.bi.length q.c9, .bool m.rs, .slice q.a11 m.ce.length q.c11, .slice q.a12 m.pf.length q.c12, .int .i64 nx] 28)) := n1.alloc n1.size _
  have A2 : RwC ((w.alloc (.cells #[.int .i64 cd, .int .i64 m.k, .int .i64 m.v, .slice p.a2 m.r.length p.c2, .slice p.a3 m.s.length p.c3, .string ⟨⟨m.ho⟩⟩, .slice p.a5 m.pr.length p.c5, .slice p.a6 m.ti.length p.c6, .int .i64 m.ag, .int .i64 m.ea, .slice p.a9 m.bi.length p.c9, .bool m.rs, .slice p.a11 m.ce.length p.c11, .slice p.a12 m.pf.length p.c12, .int .i64 nx] 28)).alloc (.cells #[.int .i64 cd, .int .i64 m.k, .int .i64 m.v, .slice q.a2 m.r.length q.c2, .slice q.a3 m.s.length q.c3, .string ⟨⟨m.ho⟩⟩, .slice q.a5 m.pr.length q.c5, .slice q.a6 m.ti.length q.c6, .int .i64 m.ag, .int .i64 m.ea, .slice q.a9 m.bi.length q.c9, .bool m.rs, .slice q.a11 m.ce.length q.c11, .slice q.a12 m.pf.length q.c12, .int .i64 nx] 28)) w.heap.size [.int .i64 cd, .int .i64 m.k, .int .i64 m.v, .slice p.a2 m.r.length p.c2, .slice p.a3 m.s.length p.c3, .string ⟨⟨m.ho⟩⟩, .slice p.a5 m.pr.length p.c5, .slice p.a6 m.ti.length p.c6, .int .i64 m.ag, .int .i64 m.ea, .slice p.a9 m.bi.length p.c9, .bool m.rs, .slice p.a11 m.ce.length p.c11, .slice p.a12 m.pf.length p.c12, .int .i64 nx] 28 := A1.up ((Below.refl _ _).alloc (Nat.le_refl _) _)
  have B2 : RwC ((w.alloc (.cells #[.int .i64 cd, .int .i64 m.k, .int .i64 m.v, .slice p.a2 m.r.length p.c2, .slice p.a3 m.s.length p.c3, .string ⟨⟨m.ho⟩⟩, .slice p.a5 m.pr.length p.c5, .slice p.a6 m.ti.length p.c6, .int .i64 m.ag, .int .i64 m.ea, .slice p.a9 m.bi.length p.c9, .bool m.rs, .slice p.a11 m.ce.length p.c11, .slice p.a12 m.pf.length p.c12, .int .i64 nx] 28)).alloc (.cells #[.int .i64 cd, .int .i64 m.k, .int .i64 m.v, .slice q.a2 m.r.length q.c2, .slice q.a3 m.s.length q.c3, .string ⟨⟨m.ho⟩⟩, .slice q.a5 m.pr.length q.c5, .slice q.a6 m.ti.length q.c6, .int .i64 m.ag, .int .i64 m.ea, .slice q.a9 m.bi.length q.c9, .bool m.rs, .slice q.a11 m.ce.length q.c11, .slice q.a12 m.pf.length q.c12, .int .i64 nx] 28)) (w.heap.size + 1) [.int .i64 cd, .int .i64 m.k, .int .i64 m.v, .slice q.a2 m.r.length q.c2, .slice q.a3 m.s.length q.c3, .string ⟨⟨m.ho⟩⟩, .slice q.a5 m.pr.length q.c5, .slice q.a6 m.ti.length q.c6, .int .i64 m.ag, .int .i64 m.ea, .slice q.a9 m.bi.length q.c9, .bool m.rs, .slice q.a11 m.ce.length q.c11, .slice q.a12 m.pf.length q.c12, .int .i64 nx] 28 := by
    have := RwC.new (w.alloc (.cells #[.int .i64 cd, .int .i64 m.k, .int .i64 m.v, .slice p.a2 m.r.length p.c2, .slice p.a3 m.s.length p.c3, .string ⟨⟨m.ho⟩⟩, .slice p.a5 m.pr.length p.c5, .slice p.a6 m.ti.length p.c6, .int .i64 m.ag, .int .i64 m.ea, .slice p.a9 m.bi.length p.c9, .bool m.rs, .slice p.a11 m.ce.length p.c11, .slice p.a12 m.pf.length p.c12, .int .i64 nx] 28)) [.int .i64 cd, .int .i64 m.k, .int .i64 m.v, .slice q.a2 m.r.length q.c2, .slice q.a3 m.s.length q.c3, .string ⟨⟨m.ho⟩⟩, .slice q.a5 m.pr.length q.c5, .slice q.a6 m.ti.length q.c6, .int .i64 m.ag, .int .i64 m.ea, .slice q.a9 m.bi.length q.c9, .bool m.rs, .slice q.a11 m.ce.length q.c11, .slice q.a12 m.pf.length q.c12, .int .i64 nx] 28
    rw [show (w.alloc (.cells #[.int .i64 cd, .int .i64 m.k, .int .i64 m.v, .slice p.a2 m.r.length p.c2, .slice p.a3 m.s.length p.c3, .string ⟨⟨m.ho⟩⟩, .slice p.a5 m.pr.length p.c5, .slice p.a6 m.ti.length p.c6, .int .i64 m.ag, .int .i64 m.ea, .slice p.a9 m.bi.length p.c9, .bool m.rs, .slice p.a11 m.ce.length p.c11, .slice p.a12 m.pf.length p.c12, .int .i64 nx] 28)).heap.size = w.heap.size + 1 by simp] at this
    exact this
  obtain ⟨d13, hd13, hrow13⟩ := rowM
  have EQ : Hid (∀ W, Below w.heap.size w W → Calls Tryz.prog 25 #[.agg (mgV p m), .agg (mgV q m)] W fun e w' => e = .returned (.bool true) ∧ Below W.heap.size W w') := fun W n => eqMessage_same W p q m (hp.up n) (hq.up n) i
  clear hp hq i n1 A1
  unfold rsV
  go_enter Tryz.func8, Tryz.ntmps8
  go_upto_region 1 with fail
  generalize (w.alloc (.cells #[.int .i64 cd, .int .i64 m.k, .int .i64 m.v, .slice p.a2 m.r.length p.c2, .slice p.a3 m.s.length p.c3, .string ⟨⟨m.ho⟩⟩, .slice p.a5 m.pr.length p.c5, .slice p.a6 m.ti.length p.c6, .int .i64 m.ag, .int .i64 m.ea, .slice p.a9 m.bi.length p.c9, .bool m.rs, .slice p.a11 m.ce.length p.c11, .slice p.a12 m.pf.length p.c12, .int .i64 nx] 28)).alloc (.cells #[.int .i64 cd, .int .i64 m.k, .int .i64 m.v, .slice q.a2 m.r.length q.c2, .slice q.a3 m.s.length q.c3, .string ⟨⟨m.ho⟩⟩, .slice q.a5 m.pr.length q.c5, .slice q.a6 m.ti.length q.c6, .int .i64 m.ag, .int .i64 m.ea, .slice q.a9 m.bi.length q.c9, .bool m.rs, .slice q.a11 m.ce.length q.c11, .slice q.a12 m.pf.length q.c12, .int .i64 nx] 28) = W at *
  have a0 : W.cell? ⟨w.heap.size, 0, none⟩ = some (.int .i64 cd) := A2.cell 0
  have b0 : W.cell? ⟨w.heap.size + 1, 0, none⟩ = some (.int .i64 cd) := B2.cell 0
  have RA := A2.partD 1 [.int .i64 m.k, .int .i64 m.v, .slice p.a2 m.r.length p.c2, .slice p.a3 m.s.length p.c3, .string ⟨⟨m.ho⟩⟩, .slice p.a5 m.pr.length p.c5, .slice p.a6 m.ti.length p.c6, .int .i64 m.ag, .int .i64 m.ea, .slice p.a9 m.bi.length p.c9, .bool m.rs, .slice p.a11 m.ce.length p.c11, .slice p.a12 m.pf.length p.c12] rfl
  have RB := B2.partD 1 [.int .i64 m.k, .int .i64 m.v, .slice q.a2 m.r.length q.c2, .slice q.a3 m.s.length q.c3, .string ⟨⟨m.ho⟩⟩, .slice q.a5 m.pr.length q.c5, .slice q.a6 m.ti.length q.c6, .int .i64 m.ag, .int .i64 m.ea, .slice q.a9 m.bi.length q.c9, .bool m.rs, .slice q.a11 m.ce.length q.c11, .slice q.a12 m.pf.length q.c12] rfl
  have HA := hide A2
  have HB := hide B2
  have E1 := hide (EQ.out W n2)
  have HN := hide n2
  clear A2 B2 EQ n2
  go_wp2_with (first
    | (refine wpList_load_mid rfl 26 (.tmp 10) rfl w.heap.size 1 rfl [.int .i64 m.k, .int .i64 m.v, .slice p.a2 m.r.length p.c2, .slice p.a3 m.s.length p.c3, .string ⟨⟨m.ho⟩⟩, .slice p.a5 m.pr.length p.c5, .slice p.a6 m.ti.length p.c6, .int .i64 m.ag, .int .i64 m.ea, .slice p.a9 m.bi.length p.c9, .bool m.rs, .slice p.a11 m.ce.length p.c11, .slice p.a12 m.pf.length p.c12] d13 RA hd13 hrow13 iM ?_)
    | (refine wpList_load_mid rfl 26 (.tmp 12) rfl (w.heap.size + 1) 1 rfl [.int .i64 m.k, .int .i64 m.v, .slice q.a2 m.r.length q.c2, .slice q.a3 m.s.length q.c3, .string ⟨⟨m.ho⟩⟩, .slice q.a5 m.pr.length q.c5, .slice q.a6 m.ti.length q.c6, .int .i64 m.ag, .int .i64 m.ea, .slice q.a9 m.bi.length q.c9, .bool m.rs, .slice q.a11 m.ce.length q.c11, .slice q.a12 m.pf.length q.c12] d13 RB hd13 hrow13 iM ?_)
    | fail)
  refine E1.out.mono ?_
  rintro e W2 ⟨rfl, n3⟩
  have a1 : W2.cell? ⟨w.heap.size, 14, none⟩ = some (.int .i64 nx) := (HA.out.up n3).cell 14
  have b1 : W2.cell? ⟨w.heap.size + 1, 14, none⟩ = some (.int .i64 nx) := (HB.out.up n3).cell 14
  have FIN := hide (nxt HN.out n3)
  clear HA HB HN n3 E1 RA RB a0 b0
  go_wp2
  go_ret
  exact ⟨rfl, FIN.out⟩
set_option maxRecDepth 100000 in
set_option maxHeartbeats 2000000 in
theorem markMR_ans (w : World) (F : Nat → Nat) (p : MQ) (m : Msg) (bs : List Plc) (cd nx : Int) (h : AnsM w F p m bs) (tp : F 7 ≤ w.heap.size) (sm : SmM m) :
    Calls Tryz.prog 11 #[.agg (rsV cd p m nx), .int .i64 1] w fun e w' => e = .returned (.int .i64 (mN12 m)) ∧ MkM w' p m bs ∧ Ch (F 0) (F 7) w w' := by
  have n1 : Below w.heap.size w (w.alloc (.cells #[.int .i64 cd, .int .i64 m.k, .int .i64 m.v, .slice p.a2 m.r.length p.c2, .slice p.a3 m.s.length p.c3, .string ⟨⟨m.ho⟩⟩, .slice p.a5 m.pr.length p.c5, .slice p.a6 m.ti.length p.c6, .int .i64 m.ag, .int .i64 m.ea, .slice p.a9 m.bi.length p.c9, .bool m.rs, .slice p.a11 m.ce.length p.c11, .slice p.a12 m.pf.length p.c12, .int .i64 nx] 28)) := (Below.refl _ _).alloc (Nat.le_refl _) _
  have A1 : RwC (w.alloc (.cells #[.int .i64 cd, .int .i64 m.k, .int .i64 m.v, .slice p.a2 m.r.length p.c2, .slice p.a3 m.s.length p.c3, .string ⟨⟨m.ho⟩⟩, .slice p.a5 m.pr.length p.c5, .slice p.a6 m.ti.length p.c6, .int .i64 m.ag, .int .i64 m.ea, .slice p.a9 m.bi.length p.c9, .bool m.rs, .slice p.a11 m.ce.length p.c11, .slice p.a12 m.pf.length p.c12, .int .i64 nx] 28)) w.heap.size [.int .i64 cd, .int .i64 m.k, .int .i64 m.v, .slice p.a2 m.r.length p.c2, .slice p.a3 m.s.length p.c3, .string ⟨⟨m.ho⟩⟩, .slice p.a5 m.pr.length p.c5, .slice p.a6 m.ti.length p.c6, .int .i64 m.ag, .int .i64 m.ea, .slice p.a9 m.bi.length p.c9, .bool m.rs, .slice p.a11 m.ce.length p.c11, .slice p.a12 m.pf.length p.c12, .int .i64 nx] 28 := RwC.new w _ _
  obtain ⟨d13, hd13, hrow13⟩ := rowM
  have MK := hide (markMessage_ans (w.alloc (.cells #[.int .i64 cd, .int .i64 m.k, .int .i64 m.v, .slice p.a2 m.r.length p.c2, .slice p.a3 m.s.length p.c3, .string ⟨⟨m.ho⟩⟩, .slice p.a5 m.pr.length p.c5, .slice p.a6 m.ti.length p.c6, .int .i64 m.ag, .int .i64 m.ea, .slice p.a9 m.bi.length p.c9, .bool m.rs, .slice p.a11 m.ce.length p.c11, .slice p.a12 m.pf.length p.c12, .int .i64 nx] 28)) F p m bs (h.up n1) (Nat.le_trans tp n1.size) sm)
  have HN := hide n1
  clear h sm n1
  unfold rsV
  go_enter Tryz.func11, Tryz.ntmps11
  go_upto_region 1 with fail
  generalize w.alloc (.cells #[.int .i64 cd, .int .i64 m.k, .int .i64 m.v, .slice p.a2 m.r.length p.c2, .slice p.a3 m.s.length p.c3, .string ⟨⟨m.ho⟩⟩, .slice p.a5 m.pr.length p.c5, .slice p.a6 m.ti.length p.c6, .int .i64 m.ag, .int .i64 m.ea, .slice p.a9 m.bi.length p.c9, .bool m.rs, .slice p.a11 m.ce.length p.c11, .slice p.a12 m.pf.length p.c12, .int .i64 nx] 28) = W at *
  have RA := A1.partD 1 [.int .i64 m.k, .int .i64 m.v, .slice p.a2 m.r.length p.c2, .slice p.a3 m.s.length p.c3, .string ⟨⟨m.ho⟩⟩, .slice p.a5 m.pr.length p.c5, .slice p.a6 m.ti.length p.c6, .int .i64 m.ag, .int .i64 m.ea, .slice p.a9 m.bi.length p.c9, .bool m.rs, .slice p.a11 m.ce.length p.c11, .slice p.a12 m.pf.length p.c12] rfl
  clear A1
  go_wp2_with (first
    | (refine wpList_load_mid rfl 26 (.tmp 5) rfl w.heap.size 1 rfl [.int .i64 m.k, .int .i64 m.v, .slice p.a2 m.r.length p.c2, .slice p.a3 m.s.length p.c3, .string ⟨⟨m.ho⟩⟩, .slice p.a5 m.pr.length p.c5, .slice p.a6 m.ti.length p.c6, .int .i64 m.ag, .int .i64 m.ea, .slice p.a9 m.bi.length p.c9, .bool m.rs, .slice p.a11 m.ce.length p.c11, .slice p.a12 m.pf.length p.c12] d13 RA hd13 hrow13 iM ?_)
    | fail)
  refine MK.out.mono ?_
  rintro e W2 ⟨rfl, M2, C2⟩
  have HM := hide M2
  have FIN : Hid (Ch (F 0) (F 7) w W2) := (Ch.of_below HN.out).trans C2
  clear M2 C2 HN MK RA
  go_wp2
  go_ret
  exact ⟨rfl, HM.out, FIN.out⟩
theorem mN12_pos (m : Msg) (sm : SmM m) : 0 ≤ mN12 m := by
  have := psB_bd (n := (mN9 m : Int)) (its := m.ce) (by omega) sm.z m.ce.length (Nat.le_refl _)
  unfold mN12 mN11
  omega
set_option maxRecDepth 100000 in
set_option maxHeartbeats 2000000 in
theorem heldMR_mk (w : World) (p : MQ) (m : Msg) (bs : List Plc) (cd nx : Int) (h : MkM w p m bs) (sm : SmM m) :
    Calls Tryz.prog 12 #[.agg (rsV cd p m nx), .int .i64 1] w fun e w' => e = .returned (.int .i64 (mN12 m)) ∧ Below w.heap.size w w' := by
  have n1 : Below w.heap.size w (w.alloc (.cells #[.int .i64 cd, .int .i64 m.k, .int .i64 m.v, .slice p.a2 m.r.length p.c2, .slice p.a3 m.s.length p.c3, .string ⟨⟨m.ho⟩⟩, .slice p.a5 m.pr.length p.c5, .slice p.a6 m.ti.length p.c6, .int .i64 m.ag, .int .i64 m.ea, .slice p.a9 m.bi.length p.c9, .bool m.rs, .slice p.a11 m.ce.length p.c11, .slice p.a12 m.pf.length p.c12, .int .i64 nx] 28)) := (Below.refl _ _).alloc (Nat.le_refl _) _
  have A1 : RwC (w.alloc (.cells #[.int .i64 cd, .int .i64 m.k, .int .i64 m.v, .slice p.a2 m.r.length p.c2, .slice p.a3 m.s.length p.c3, .string ⟨⟨m.ho⟩⟩, .slice p.a5 m.pr.length p.c5, .slice p.a6 m.ti.length p.c6, .int .i64 m.ag, .int .i64 m.ea, .slice p.a9 m.bi.length p.c9, .bool m.rs, .slice p.a11 m.ce.length p.c11, .slice p.a12 m.pf.length p.c12, .int .i64 nx] 28)) w.heap.size [.int .i64 cd, .int .i64 m.k, .int .i64 m.v, .slice p.a2 m.r.length p.c2, .slice p.a3 m.s.length p.c3, .string ⟨⟨m.ho⟩⟩, .slice p.a5 m.pr.length p.c5, .slice p.a6 m.ti.length p.c6, .int .i64 m.ag, .int .i64 m.ea, .slice p.a9 m.bi.length p.c9, .bool m.rs, .slice p.a11 m.ce.length p.c11, .slice p.a12 m.pf.length p.c12, .int .i64 nx] 28 := RwC.new w _ _
  obtain ⟨d13, hd13, hrow13⟩ := rowM
  have MK := hide (heldMessage_mk (w.alloc (.cells #[.int .i64 cd, .int .i64 m.k, .int .i64 m.v, .slice p.a2 m.r.length p.c2, .slice p.a3 m.s.length p.c3, .string ⟨⟨m.ho⟩⟩, .slice p.a5 m.pr.length p.c5, .slice p.a6 m.ti.length p.c6, .int .i64 m.ag, .int .i64 m.ea, .slice p.a9 m.bi.length p.c9, .bool m.rs, .slice p.a11 m.ce.length p.c11, .slice p.a12 m.pf.length p.c12, .int .i64 nx] 28)) p m bs (h.up n1) sm)
  have pos := mN12_pos m sm
  obtain ⟨nn, hnn⟩ : ∃ x, Hid (mN12 m = x) := ⟨_, rfl⟩
  rw [hnn.out] at MK pos ⊢
  have HN := hide n1
  clear h sm n1
  unfold rsV
  go_enter Tryz.func12, Tryz.ntmps12
  go_upto_region 1 with fail
  generalize w.alloc (.cells #[.int .i64 cd, .int .i64 m.k, .int .i64 m.v, .slice p.a2 m.r.length p.c2, .slice p.a3 m.s.length p.c3, .string ⟨⟨m.ho⟩⟩, .slice p.a5 m.pr.length p.c5, .slice p.a6 m.ti.length p.c6, .int .i64 m.ag, .int .i64 m.ea, .slice p.a9 m.bi.length p.c9, .bool m.rs, .slice p.a11 m.ce.length p.c11, .slice p.a12 m.pf.length p.c12, .int .i64 nx] 28) = W at *
  have RA := A1.partD 1 [.int .i64 m.k, .int .i64 m.v, .slice p.a2 m.r.length p.c2, .slice p.a3 m.s.length p.c3, .string ⟨⟨m.ho⟩⟩, .slice p.a5 m.pr.length p.c5, .slice p.a6 m.ti.length p.c6, .int .i64 m.ag, .int .i64 m.ea, .slice p.a9 m.bi.length p.c9, .bool m.rs, .slice p.a11 m.ce.length p.c11, .slice p.a12 m.pf.length p.c12] rfl
  clear A1
  go_wp2_with (first
    | (refine wpList_load_mid rfl 26 (.tmp 5) rfl w.heap.size 1 rfl [.int .i64 m.k, .int .i64 m.v, .slice p.a2 m.r.length p.c2, .slice p.a3 m.s.length p.c3, .string ⟨⟨m.ho⟩⟩, .slice p.a5 m.pr.length p.c5, .slice p.a6 m.ti.length p.c6, .int .i64 m.ag, .int .i64 m.ea, .slice p.a9 m.bi.length p.c9, .bool m.rs, .slice p.a11 m.ce.length p.c11, .slice p.a12 m.pf.length p.c12] d13 RA hd13 hrow13 iM ?_)
    | fail)
  refine MK.out.mono ?_
  rintro e W2 ⟨rfl, n2⟩
  have FIN := hide (nxt HN.out n2)
  have t0 : decide (nn < 0) = false := decide_eq_false (by omega)
  clear n2 HN MK RA
  go_wp2
  go_ret
  exact ⟨rfl, FIN.out⟩
/-- What is answered is small. -/
theorem sm_dm {xs : List Int} (at_ : Int) : SmM (dmR xs at_) := by
  unfold dmR
  split
  rotate_left
  · exact ⟨by simp [msg0], by simp [msg0], fun i hi => absurd hi (by simp [msg0]), by simp [msg0]⟩
  rename_i h
  unfold dmC at h
  split at h
  · simp at h
  split at h
  · rename_i h1 h2
    exact absurd h h2
  rename_i ho hp
  split at h
  rotate_left
  · simp at h
  rename_i hg
  have hp : dmP (xs.drop at_.toNat) = 0 := Decidable.not_not.1 hp
  have f0 : mfF (dmM (xs.drop at_.toNat)) = 0 := by
    unfold dmG at hg
    exact (of_decide_eq_true hg).1
  have hk := (dmP_zero hp).2.1
  generalize xs.drop at_.toNat = ys at *
  unfold dmM at f0 ⊢
  generalize dmX ys = zs at *
  generalize ys.getD 0 0 = k at *
  have : k = 1 ∨ k = 2 ∨ k = 4 ∨ k = 5 ∨ k = 8 ∨ k = 11 ∨ k = 15 ∨ k = 20 ∨ k = 24 := by simpa only [kinds, List.mem_cons, List.not_mem_nil, or_false] using hk
  rcases this with e | e | e | e | e | e | e | e | e <;> subst e
  · have f1 : mfF (rdHello zs) = 0 := f0
    rw [mfHello] at f1
    have l5 := he_pr f1
    have l6 : (rdHello zs).ti.length ≤ 400 := by
      unfold heF at f1
      split at f1
      · simp at f1
      split at f1
      · simp at f1
      split at f1
      · simp at f1
      split at f1
      · simp at f1
      omega
    have l2 : (rdHello zs).r.length = 32 := tkB_len _ _ _
    have l3 : (rdHello zs).s.length = 32 := tkB_len _ _ _
    have l9 : (rdHello zs).bi.length ≤ 32 := by
      show (if hpN zs = 0 then [] else tkB zs (hpC zs + 5) 32 : List Int).length ≤ 32
      split
      · simp
      · rw [tkB_len]; omega
    refine ⟨?_, Nat.zero_le _, fun i hi => absurd hi (by simp [rdM, rdHello]), Nat.zero_le _⟩
    show (rdHello zs).r.length + (rdHello zs).s.length + (rdHello zs).pr.length + (rdHello zs).ti.length + (rdHello zs).bi.length ≤ 900
    omega
  · refine ⟨?_, Nat.zero_le _, fun i hi => absurd hi (by simp [rdM, rdAnswer]), Nat.zero_le _⟩
    show (tkB zs 1 32).length + (tkB zs 33 32).length + 0 + 0 + 0 ≤ 900
    rw [tkB_len, tkB_len]
    omega
  · have f1 : mfF (rdTicket zs) = 0 := f0
    rw [mfTicket] at f1
    have l6 : (rdTicket zs).ti.length ≤ 400 := by
      unfold tiF at f1
      split at f1
      · simp at f1
      split at f1
      · simp at f1
      omega
    refine ⟨?_, Nat.zero_le _, fun i hi => absurd hi (by simp [rdM, rdTicket]), Nat.zero_le _⟩
    show (tkB zs 8 32).length + 0 + 0 + (rdTicket zs).ti.length + 0 ≤ 900
    rw [tkB_len]
    omega
  · exact ⟨by simp [rdM, rdEnd], by simp [rdM, rdEnd], fun i hi => absurd hi (by simp [rdM, rdEnd]), by simp [rdM, rdEnd]⟩
  · have f1 : mfF (rdExtras zs) = 0 := f0
    rw [mfExtras] at f1
    have l5 := ex_pr f1
    refine ⟨?_, Nat.zero_le _, fun i hi => absurd hi (by simp [rdM, rdExtras]), Nat.zero_le _⟩
    show 0 + 0 + (rdExtras zs).pr.length + 0 + 0 ≤ 900
    omega
  · have f1 : mfF (rdCerts zs) = 0 := f0
    rw [mfCerts] at f1
    have l5 := ce_n f1
    refine ⟨Nat.zero_le _, ?_, fun i hi => ?_, Nat.zero_le _⟩
    · show (rdCerts zs).ce.length ≤ 1000
      omega
    · have hA : ctA (rdCerts zs).ce = false := by
        unfold ceF at f1
        split at f1
        · simp at f1
        split at f1
        · simp at f1
        split at f1
        · simp at f1
        · rename_i h; simpa using h
      have hi : i < (rdCerts zs).ce.length := hi
      by_cases hO : ctO ((rdCerts zs).ce.getD i []).length = true
      · rw [ctA_yes hi hO] at hA
        cases hA
      · show ((rdCerts zs).ce.getD i []).length ≤ 2048
        clear hi
        generalize ((rdCerts zs).ce.getD i []).length = L at *
        unfold ctO at hO
        simp at hO
        omega
  · refine ⟨Nat.zero_le _, Nat.zero_le _, fun i hi => absurd hi (by simp [rdM, rdProof]), ?_⟩
    show (tkB zs 0 64).length ≤ _
    rw [tkB_len]
    omega
  · refine ⟨Nat.zero_le _, Nat.zero_le _, fun i hi => absurd hi (by simp [rdM, rdFinished]), ?_⟩
    show (tkB zs 0 32).length ≤ _
    rw [tkB_len]
    omega
  · exact ⟨by simp [rdM, rdUpdate], by simp [rdM, rdUpdate], fun i hi => absurd hi (by simp [rdM, rdUpdate]), by simp [rdM, rdUpdate]⟩
end Go.Proofs.YtflecleofaeiiaaGreat
