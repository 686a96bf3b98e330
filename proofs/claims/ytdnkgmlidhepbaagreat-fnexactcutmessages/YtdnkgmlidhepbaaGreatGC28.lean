import Derived.Test.YtdnkgmlidhepbaaGreatGC27
import Derived.Test.YtdnkgmlidhepbaaGreatGCxMcV
namespace Go.Proofs.YtdnkgmlidhepbaaGreat
open Go Go.RowKit
def DcP (w : World) (xs : List Int) (at_ : Int) (e : Ending) (w' : World) : Prop := (∃ p bs F, e = .returned (.agg (rsV (dmC xs at_) p (dmR xs at_) (dmE xs at_))) ∧ w.heap.size ≤ F 0 ∧ AnsM w' F p (dmR xs at_) bs) ∧ Below w.heap.size w w'
set_option maxRecDepth 100000 in
set_option maxHeartbeats 4000000 in
theorem decode_out (w : World) (mq : Nat) (a : Option Addr) (c : Nat) (xs : List Int) (at_ : Int) (ho : at_ < 0 ∨ (xs.length : Int) < at_) :
    Calls Tryz.prog 24 #[.map (some mq), .slice a xs.length c, .int .i64 at_] w fun e w' => DcP w xs at_ (e) (w') := by
  have HO := hide ho
  have Z : RwC (w.alloc (.cells #[.int .i64 0, .int .i64 0, .int .i64 0, .slice none 0 0, .slice none 0 0, .string ⟨#[]⟩, .slice none 0 0, .slice none 0 0, .int .i64 0, .int .i64 0, .slice none 0 0, .bool false, .slice none 0 0, .slice none 0 0, .int .i64 0] 28)) w.heap.size [.int .i64 0, .int .i64 0, .int .i64 0, .slice none 0 0, .slice none 0 0, .string ⟨#[]⟩, .slice none 0 0, .slice none 0 0, .int .i64 0, .int .i64 0, .slice none 0 0, .bool false, .slice none 0 0, .slice none 0 0, .int .i64 0] 28 := RwC.new w _ _
  have N : Below w.heap.size w (w.alloc (.cells #[.int .i64 0, .int .i64 0, .int .i64 0, .slice none 0 0, .slice none 0 0, .string ⟨#[]⟩, .slice none 0 0, .slice none 0 0, .int .i64 0, .int .i64 0, .slice none 0 0, .bool false, .slice none 0 0, .slice none 0 0, .int .i64 0] 28)) := (Below.refl _ _).alloc (Nat.le_refl _) _
  obtain ⟨d15, hd15, hrow15⟩ := rowMR
  go_enter Tryz.func24, Tryz.ntmps24
  go_upto_region 1 with fail
  generalize w.alloc (.cells #[.int .i64 0, .int .i64 0, .int .i64 0, .slice none 0 0, .slice none 0 0, .string ⟨#[]⟩, .slice none 0 0, .slice none 0 0, .int .i64 0, .int .i64 0, .slice none 0 0, .bool false, .slice none 0 0, .slice none 0 0, .int .i64 0] 28) = W at *
  by_cases h0 : at_ < 0
  · have t0 : decide (at_ < 0) = true := decide_eq_true h0
    clear ho
    go_upto_region 2 with fail
    have THR := Z.thereG
    have RR := World.rangeAt_setCells_same W w.heap.size 0 [.int .i64 2, .int .i64 0, .int .i64 0, .slice none 0 0, .slice none 0 0, .string ⟨#[]⟩, .slice none 0 0, .slice none 0 0, .int .i64 0, .int .i64 0, .slice none 0 0, .bool false, .slice none 0 0, .slice none 0 0, .int .i64 0] THR
    have OQ := only_setG W w.heap.size [.int .i64 2, .int .i64 0, .int .i64 0, .slice none 0 0, .slice none 0 0, .string ⟨#[]⟩, .slice none 0 0, .slice none 0 0, .int .i64 0, .int .i64 0, .slice none 0 0, .bool false, .slice none 0 0, .slice none 0 0, .int .i64 0] 0
    have RES : Hid (DcP w xs at_ (Ending.returned (.agg #[.int .i64 2, .int .i64 0, .int .i64 0, .slice none 0 0, .slice none 0 0, .string ⟨#[]⟩, .slice none 0 0, .slice none 0 0, .int .i64 0, .int .i64 0, .slice none 0 0, .bool false, .slice none 0 0, .slice none 0 0, .int .i64 0])) ((W.setCells w.heap.size 0 [.int .i64 2, .int .i64 0, .int .i64 0, .slice none 0 0, .slice none 0 0, .string ⟨#[]⟩, .slice none 0 0, .slice none 0 0, .int .i64 0, .int .i64 0, .slice none 0 0, .bool false, .slice none 0 0, .slice none 0 0, .int .i64 0]))) := by
      have hC : dmC xs at_ = 2 := by unfold dmC; rw [if_pos HO.out]
      have hR : dmR xs at_ = msg0 := by unfold dmR; rw [hC]; rfl
      have hE : dmE xs at_ = 0 := by unfold dmE; rw [hC]; rfl
      show (∃ p bs F, Ending.returned (.agg #[.int .i64 2, .int .i64 0, .int .i64 0, .slice none 0 0, .slice none 0 0, .string ⟨#[]⟩, .slice none 0 0, .slice none 0 0, .int .i64 0, .int .i64 0, .slice none 0 0, .bool false, .slice none 0 0, .slice none 0 0, .int .i64 0]) = .returned (.agg (rsV (dmC xs at_) p (dmR xs at_) (dmE xs at_))) ∧ w.heap.size ≤ F 0 ∧ AnsM (W.setCells w.heap.size 0 [.int .i64 2, .int .i64 0, .int .i64 0, .slice none 0 0, .slice none 0 0, .string ⟨#[]⟩, .slice none 0 0, .slice none 0 0, .int .i64 0, .int .i64 0, .slice none 0 0, .bool false, .slice none 0 0, .slice none 0 0, .int .i64 0]) F p (dmR xs at_) bs) ∧ Below w.heap.size w (W.setCells w.heap.size 0 [.int .i64 2, .int .i64 0, .int .i64 0, .slice none 0 0, .slice none 0 0, .string ⟨#[]⟩, .slice none 0 0, .slice none 0 0, .int .i64 0, .int .i64 0, .slice none 0 0, .bool false, .slice none 0 0, .slice none 0 0, .int .i64 0])
      rw [hC, hR, hE]
      exact ⟨⟨mq0, [], fun _ => w.heap.size, rfl, Nat.le_refl _, AnsM.zero _ _⟩, N.trans (OQ.below (Nat.le_refl _))⟩
    clear OQ Z N
    go_wp2_with (refine wpList_store_mid rfl 28 (.tmp 6) (.tmp 20) rfl w.heap.size 0 #[.int .i64 2, .int .i64 0, .int .i64 0, .slice none 0 0, .slice none 0 0, .string ⟨#[]⟩, .slice none 0 0, .slice none 0 0, .int .i64 0, .int .i64 0, .slice none 0 0, .bool false, .slice none 0 0, .slice none 0 0, .int .i64 0] rfl rfl THR iMR (one15 _ rfl) ?_)
    exact bodyPost_ret (v := .agg #[.int .i64 2, .int .i64 0, .int .i64 0, .slice none 0 0, .slice none 0 0, .string ⟨#[]⟩, .slice none 0 0, .slice none 0 0, .int .i64 0, .int .i64 0, .slice none 0 0, .bool false, .slice none 0 0, .slice none 0 0, .int .i64 0]) (results_cellG Tryz.results24 _ _ w.heap.size _ d15 rfl RR hd15 hrow15 iMR) rfl RES.out
  · have h1 : (xs.length : Int) < at_ := by omega
    have t0 : decide (at_ < 0) = false := decide_eq_false h0
    have t1 : decide ((xs.length : Int) < at_) = true := decide_eq_true h1
    clear ho
    go_upto_region 2 with fail
    have THR := Z.thereG
    have RR := World.rangeAt_setCells_same W w.heap.size 0 [.int .i64 2, .int .i64 0, .int .i64 0, .slice none 0 0, .slice none 0 0, .string ⟨#[]⟩, .slice none 0 0, .slice none 0 0, .int .i64 0, .int .i64 0, .slice none 0 0, .bool false, .slice none 0 0, .slice none 0 0, .int .i64 0] THR
    have OQ := only_setG W w.heap.size [.int .i64 2, .int .i64 0, .int .i64 0, .slice none 0 0, .slice none 0 0, .string ⟨#[]⟩, .slice none 0 0, .slice none 0 0, .int .i64 0, .int .i64 0, .slice none 0 0, .bool false, .slice none 0 0, .slice none 0 0, .int .i64 0] 0
    have RES : Hid (DcP w xs at_ (Ending.returned (.agg #[.int .i64 2, .int .i64 0, .int .i64 0, .slice none 0 0, .slice none 0 0, .string ⟨#[]⟩, .slice none 0 0, .slice none 0 0, .int .i64 0, .int .i64 0, .slice none 0 0, .bool false, .slice none 0 0, .slice none 0 0, .int .i64 0])) ((W.setCells w.heap.size 0 [.int .i64 2, .int .i64 0, .int .i64 0, .slice none 0 0, .slice none 0 0, .string ⟨#[]⟩, .slice none 0 0, .slice none 0 0, .int .i64 0, .int .i64 0, .slice none 0 0, .bool false, .slice none 0 0, .slice none 0 0, .int .i64 0]))) := by
      have hC : dmC xs at_ = 2 := by unfold dmC; rw [if_pos HO.out]
      have hR : dmR xs at_ = msg0 := by unfold dmR; rw [hC]; rfl
      have hE : dmE xs at_ = 0 := by unfold dmE; rw [hC]; rfl
      show (∃ p bs F, Ending.returned (.agg #[.int .i64 2, .int .i64 0, .int .i64 0, .slice none 0 0, .slice none 0 0, .string ⟨#[]⟩, .slice none 0 0, .slice none 0 0, .int .i64 0, .int .i64 0, .slice none 0 0, .bool false, .slice none 0 0, .slice none 0 0, .int .i64 0]) = .returned (.agg (rsV (dmC xs at_) p (dmR xs at_) (dmE xs at_))) ∧ w.heap.size ≤ F 0 ∧ AnsM (W.setCells w.heap.size 0 [.int .i64 2, .int .i64 0, .int .i64 0, .slice none 0 0, .slice none 0 0, .string ⟨#[]⟩, .slice none 0 0, .slice none 0 0, .int .i64 0, .int .i64 0, .slice none 0 0, .bool false, .slice none 0 0, .slice none 0 0, .int .i64 0]) F p (dmR xs at_) bs) ∧ Below w.heap.size w (W.setCells w.heap.size 0 [.int .i64 2, .int .i64 0, .int .i64 0, .slice none 0 0, .slice none 0 0, .string ⟨#[]⟩, .slice none 0 0, .slice none 0 0, .int .i64 0, .int .i64 0, .slice none 0 0, .bool false, .slice none 0 0, .slice none 0 0, .int .i64 0])
      rw [hC, hR, hE]
      exact ⟨⟨mq0, [], fun _ => w.heap.size, rfl, Nat.le_refl _, AnsM.zero _ _⟩, N.trans (OQ.below (Nat.le_refl _))⟩
    clear OQ Z N
    go_wp2_with (refine wpList_store_mid rfl 28 (.tmp 6) (.tmp 20) rfl w.heap.size 0 #[.int .i64 2, .int .i64 0, .int .i64 0, .slice none 0 0, .slice none 0 0, .string ⟨#[]⟩, .slice none 0 0, .slice none 0 0, .int .i64 0, .int .i64 0, .slice none 0 0, .bool false, .slice none 0 0, .slice none 0 0, .int .i64 0] rfl rfl THR iMR (one15 _ rfl) ?_)
    exact bodyPost_ret (v := .agg #[.int .i64 2, .int .i64 0, .int .i64 0, .slice none 0 0, .slice none 0 0, .string ⟨#[]⟩, .slice none 0 0, .slice none 0 0, .int .i64 0, .int .i64 0, .slice none 0 0, .bool false, .slice none 0 0, .slice none 0 0, .int .i64 0]) (results_cellG Tryz.results24 _ _ w.heap.size _ d15 rfl RR hd15 hrow15 iMR) rfl RES.out
set_option maxRecDepth 100000 in
set_option maxHeartbeats 4000000 in
theorem decode_pre (w : World) (mq : Nat) (g : Nat) (a : Option Addr) (c : Nat) (xs : List Int) (i : Nat) (hi : i ≤ xs.length) (hm : w.heap[mq]? = some (.map regE 9)) (hr : Rd w g a .u8 xs) (hb : Byt xs) (_hz : a = none → c = 0) (hc : xs.length ≤ c) (hx : xs.length ≤ 1048576) (hp : dmP (xs.drop i) ≠ 0) :
    Calls Tryz.prog 24 #[.map (some mq), .slice a xs.length c, .int .i64 (i : Int)] w fun e w' => DcP w xs (i : Int) (e) (w') := by
  have Z : RwC (w.alloc (.cells #[.int .i64 0, .int .i64 0, .int .i64 0, .slice none 0 0, .slice none 0 0, .string ⟨#[]⟩, .slice none 0 0, .slice none 0 0, .int .i64 0, .int .i64 0, .slice none 0 0, .bool false, .slice none 0 0, .slice none 0 0, .int .i64 0] 28)) w.heap.size [.int .i64 0, .int .i64 0, .int .i64 0, .slice none 0 0, .slice none 0 0, .string ⟨#[]⟩, .slice none 0 0, .slice none 0 0, .int .i64 0, .int .i64 0, .slice none 0 0, .bool false, .slice none 0 0, .slice none 0 0, .int .i64 0] 28 := RwC.new w _ _
  have N : Below w.heap.size w (w.alloc (.cells #[.int .i64 0, .int .i64 0, .int .i64 0, .slice none 0 0, .slice none 0 0, .string ⟨#[]⟩, .slice none 0 0, .slice none 0 0, .int .i64 0, .int .i64 0, .slice none 0 0, .bool false, .slice none 0 0, .slice none 0 0, .int .i64 0] 28)) := (Below.refl _ _).alloc (Nat.le_refl _) _
  obtain ⟨d15, hd15, hrow15⟩ := rowMR
  go_enter Tryz.func24, Tryz.ntmps24
  go_upto_region 1 with fail
  generalize w.alloc (.cells #[.int .i64 0, .int .i64 0, .int .i64 0, .slice none 0 0, .slice none 0 0, .string ⟨#[]⟩, .slice none 0 0, .slice none 0 0, .int .i64 0, .int .i64 0, .slice none 0 0, .bool false, .slice none 0 0, .slice none 0 0, .int .i64 0] 28) = W at *
  have ml : mq < w.heap.size := (Array.getElem?_eq_some_iff.1 hm).1
  have t0 : decide ((i : Int) < 0) = false := decide_eq_false (by omega)
  have t1 : decide ((xs.length : Int) < (i : Int)) = false := decide_eq_false (by omega)
  go_upto_region 3 with fail
  obtain ⟨ys, ey⟩ : ∃ ys, xs.drop i = ys := ⟨_, rfl⟩
  have ly : ys.length = xs.length - i := by rw [← ey, List.length_drop]
  have SLC := sl_low W a xs.length c i ys.length hi hc ly
  have RY : Rd W g (slA a i c) .u8 ys := by rw [← ey]; exact (hr.up N).slD hc i
  have BY : Byt ys := by rw [← ey]; exact byt_drop hb i
  have LY : ys.length ≤ 1048576 := by omega
  have EY : Hid (xs.drop ((i : Int)).toNat = ys) := ey
  have LYH := hide ly
  have M1 : W.heap[mq]? = some (.map regE 9) := (N.block mq ml).trans hm
  have BS := hide (bodySize_any W mq g (slA a i c) (c - i) ys M1 RY BY LY)
  clear ly ey t0 t1
  generalize slA a i c = aR at *
  generalize c - i = cR at *
  go_wp2_with (refine wpList_slT _ rfl 22 (.tmp 23) (some (.tmp 24)) none rfl (.slice a xs.length c) (some (.int .i64 (i : Int))) none rfl rfl rfl _ SLC ?_)
  refine BS.out.mono ?_
  rintro e W1 ⟨rfl, n1⟩
  have Z1 := Z.up n1
  have N1 := nxt N n1
  clear BS SLC Z N RY n1
  have Z := Z1
  have N := N1
  clear Z1 N1
  have eP : xs.drop i = ys := EY.out
  rw [eP] at hp
  rw [if_neg hp]
  obtain ⟨cd, ecd⟩ : ∃ x, Hid (dmP ys = x) := ⟨_, rfl⟩
  rw [ecd.out] at hp ⊢
  have HP := hide hp
  have u0 : (cd == 0) = false := beq_eq_false_iff_ne.2 hp
  have HI := hide hi
  clear hr hb hc hm eP hi
  go_upto_region 5 with fail
  have THR := Z.thereG
  have RR := World.rangeAt_setCells_same W1 w.heap.size 0 [.int .i64 (cd), .int .i64 0, .int .i64 0, .slice none 0 0, .slice none 0 0, .string ⟨#[]⟩, .slice none 0 0, .slice none 0 0, .int .i64 0, .int .i64 0, .slice none 0 0, .bool false, .slice none 0 0, .slice none 0 0, .int .i64 0] THR
  have OQ := only_setG W1 w.heap.size [.int .i64 (cd), .int .i64 0, .int .i64 0, .slice none 0 0, .slice none 0 0, .string ⟨#[]⟩, .slice none 0 0, .slice none 0 0, .int .i64 0, .int .i64 0, .slice none 0 0, .bool false, .slice none 0 0, .slice none 0 0, .int .i64 0] 0
  have RES : Hid (DcP w xs (i : Int) (Ending.returned (.agg #[.int .i64 (cd), .int .i64 0, .int .i64 0, .slice none 0 0, .slice none 0 0, .string ⟨#[]⟩, .slice none 0 0, .slice none 0 0, .int .i64 0, .int .i64 0, .slice none 0 0, .bool false, .slice none 0 0, .slice none 0 0, .int .i64 0])) ((W1.setCells w.heap.size 0 [.int .i64 (cd), .int .i64 0, .int .i64 0, .slice none 0 0, .slice none 0 0, .string ⟨#[]⟩, .slice none 0 0, .slice none 0 0, .int .i64 0, .int .i64 0, .slice none 0 0, .bool false, .slice none 0 0, .slice none 0 0, .int .i64 0]))) := by
    have hC : dmC xs (i : Int) = cd := by unfold dmC; rw [if_neg (by have := HI.out; omega), EY.out, ecd.out, if_pos HP.out]
    have hR : dmR xs (i : Int) = msg0 := by unfold dmR; rw [hC]; rw [if_neg HP.out]
    have hE : dmE xs (i : Int) = 0 := by unfold dmE; rw [hC]; rw [if_neg HP.out]
    show (∃ p bs F, Ending.returned (.agg #[.int .i64 (cd), .int .i64 0, .int .i64 0, .slice none 0 0, .slice none 0 0, .string ⟨#[]⟩, .slice none 0 0, .slice none 0 0, .int .i64 0, .int .i64 0, .slice none 0 0, .bool false, .slice none 0 0, .slice none 0 0, .int .i64 0]) = .returned (.agg (rsV (dmC xs (i : Int)) p (dmR xs (i : Int)) (dmE xs (i : Int)))) ∧ w.heap.size ≤ F 0 ∧ AnsM (W1.setCells w.heap.size 0 [.int .i64 (cd), .int .i64 0, .int .i64 0, .slice none 0 0, .slice none 0 0, .string ⟨#[]⟩, .slice none 0 0, .slice none 0 0, .int .i64 0, .int .i64 0, .slice none 0 0, .bool false, .slice none 0 0, .slice none 0 0, .int .i64 0]) F p (dmR xs (i : Int)) bs) ∧ Below w.heap.size w (W1.setCells w.heap.size 0 [.int .i64 (cd), .int .i64 0, .int .i64 0, .slice none 0 0, .slice none 0 0, .string ⟨#[]⟩, .slice none 0 0, .slice none 0 0, .int .i64 0, .int .i64 0, .slice none 0 0, .bool false, .slice none 0 0, .slice none 0 0, .int .i64 0])
    rw [hC, hR, hE]
    exact ⟨⟨mq0, [], fun _ => w.heap.size, rfl, Nat.le_refl _, AnsM.zero _ _⟩, N.trans (OQ.below (Nat.le_refl _))⟩
  clear OQ Z N
  go_wp2_with (refine wpList_store_mid rfl 28 (.tmp 6) (.tmp 32) rfl w.heap.size 0 #[.int .i64 (cd), .int .i64 0, .int .i64 0, .slice none 0 0, .slice none 0 0, .string ⟨#[]⟩, .slice none 0 0, .slice none 0 0, .int .i64 0, .int .i64 0, .slice none 0 0, .bool false, .slice none 0 0, .slice none 0 0, .int .i64 0] rfl rfl THR iMR (one15 _ rfl) ?_)
  exact bodyPost_ret (v := .agg #[.int .i64 (cd), .int .i64 0, .int .i64 0, .slice none 0 0, .slice none 0 0, .string ⟨#[]⟩, .slice none 0 0, .slice none 0 0, .int .i64 0, .int .i64 0, .slice none 0 0, .bool false, .slice none 0 0, .slice none 0 0, .int .i64 0]) (results_cellG Tryz.results24 _ _ w.heap.size _ d15 rfl RR hd15 hrow15 iMR) rfl RES.out
end Go.Proofs.YtdnkgmlidhepbaaGreat
namespace Go.Proofs.YtdnkgmlidhepbaaGreat
open Go Go.RowKit
set_option maxRecDepth 100000 in
set_option maxHeartbeats 4000000 in
theorem decode_body (w : World) (mq : Nat) (g : Nat) (a : Option Addr) (c : Nat) (xs : List Int) (i : Nat) (hi : i ≤ xs.length) (hm : w.heap[mq]? = some (.map regE 9)) (hr : Rd w g a .u8 xs) (hb : Byt xs) (hz : a = none → c = 0) (hc : xs.length ≤ c) (hx : xs.length ≤ 1048576) (hp : dmP (xs.drop i) = 0) (k : Int) (ek : (xs.drop i).getD 0 0 = k) (fm : Nat) (T S : TypeId) (init : List Value) (cells : MQ → Msg → List Value) (nrm : MQ → MQ)
    (hV : regV k = .func (Fn.func fm) #[] #[]) (cm : ∀ vs W, (callFunc fm vs).run Tryz.prog W = .ok (.enter fm vs) W)
    (NW : ∀ W, Calls Tryz.prog fm #[] W fun e W' => e = .returned (.iface T (.pointer (some ⟨W.heap.size, 0, none⟩))) ∧ RwC W' W.heap.size init S ∧ Below W.heap.size W W')
    (RW : ∀ (w : World) (q g : Nat) (a : Option Addr) (c : Nat) (xs : List Int), RwC w q init S → Rd w g a .u8 xs → Byt xs → (0 < xs.length → g ≠ q) → (a = none → c = 0) → xs.length ≤ c → xs.length ≤ 1048576 → Calls Tryz.prog 54 #[.iface T (.pointer (some ⟨q, 0, none⟩)), .slice a xs.length c] w fun e w' => e = .returned (.bool (decide (mfF (rdM k xs) = 0 ∧ bodF (rdM k xs) = xs))) ∧ (decide (mfF (rdM k xs) = 0 ∧ bodF (rdM k xs) = xs) = true → RK cells nrm S w.heap.size q (rdM k xs) w') ∧ Tch [q] w w')
    (PL : ∀ (W : World) (q : Nat) (p : MQ) (xs : List Int), nrm p = p → RwC W q (cells p (rdM k xs)) S → Calls Tryz.prog 55 #[.iface T (.pointer (some ⟨q, 0, none⟩))] W fun e W' => e = .returned (.agg (mgV p (rdM k xs))) ∧ Below W.heap.size W W') :
    Calls Tryz.prog 24 #[.map (some mq), .slice a xs.length c, .int .i64 (i : Int)] w fun e w' => DcP w xs (i : Int) (e) (w') := by
  have HNW := hide NW
  have HRW := hide RW
  have HPL := hide PL
  clear NW RW PL
  have Z : RwC (w.alloc (.cells #[.int .i64 0, .int .i64 0, .int .i64 0, .slice none 0 0, .slice none 0 0, .string ⟨#[]⟩, .slice none 0 0, .slice none 0 0, .int .i64 0, .int .i64 0, .slice none 0 0, .bool false, .slice none 0 0, .slice none 0 0, .int .i64 0] 28)) w.heap.size [.int .i64 0, .int .i64 0, .int .i64 0, .slice none 0 0, .slice none 0 0, .string ⟨#[]⟩, .slice none 0 0, .slice none 0 0, .int .i64 0, .int .i64 0, .slice none 0 0, .bool false, .slice none 0 0, .slice none 0 0, .int .i64 0] 28 := RwC.new w _ _
  have N : Below w.heap.size w (w.alloc (.cells #[.int .i64 0, .int .i64 0, .int .i64 0, .slice none 0 0, .slice none 0 0, .string ⟨#[]⟩, .slice none 0 0, .slice none 0 0, .int .i64 0, .int .i64 0, .slice none 0 0, .bool false, .slice none 0 0, .slice none 0 0, .int .i64 0] 28)) := (Below.refl _ _).alloc (Nat.le_refl _) _
  obtain ⟨d15, hd15, hrow15⟩ := rowMR
  go_enter Tryz.func24, Tryz.ntmps24
  go_upto_region 1 with fail
  generalize w.alloc (.cells #[.int .i64 0, .int .i64 0, .int .i64 0, .slice none 0 0, .slice none 0 0, .string ⟨#[]⟩, .slice none 0 0, .slice none 0 0, .int .i64 0, .int .i64 0, .slice none 0 0, .bool false, .slice none 0 0, .slice none 0 0, .int .i64 0] 28) = W at *
  have ml : mq < w.heap.size := (Array.getElem?_eq_some_iff.1 hm).1
  have t0 : decide ((i : Int) < 0) = false := decide_eq_false (by omega)
  have t1 : decide ((xs.length : Int) < (i : Int)) = false := decide_eq_false (by omega)
  go_upto_region 3 with fail
  obtain ⟨ys, ey⟩ : ∃ ys, xs.drop i = ys := ⟨_, rfl⟩
  have ly : ys.length = xs.length - i := by rw [← ey, List.length_drop]
  have SLC := sl_low W a xs.length c i ys.length hi hc ly
  have RY : Rd W g (slA a i c) .u8 ys := by rw [← ey]; exact (hr.up N).slD hc i
  have BY : Byt ys := by rw [← ey]; exact byt_drop hb i
  have LY : ys.length ≤ 1048576 := by omega
  have EY : Hid (xs.drop ((i : Int)).toNat = ys) := ey
  have LYH := hide ly
  have M1 : W.heap[mq]? = some (.map regE 9) := (N.block mq ml).trans hm
  have BS := hide (bodySize_any W mq g (slA a i c) (c - i) ys M1 RY BY LY)
  clear ly ey t0 t1
  generalize slA a i c = aR at *
  generalize c - i = cR at *
  go_wp2_with (refine wpList_slT _ rfl 22 (.tmp 23) (some (.tmp 24)) none rfl (.slice a xs.length c) (some (.int .i64 (i : Int))) none rfl rfl rfl _ SLC ?_)
  refine BS.out.mono ?_
  rintro e W1 ⟨rfl, n1⟩
  have Z1 := Z.up n1
  have N1 := nxt N n1
  clear BS SLC Z N RY n1
  have Z := Z1
  have N := N1
  clear Z1 N1
  have eY : xs.drop i = ys := EY.out
  rw [eY] at hp ek
  rw [if_pos hp, hp]
  have HP := hide hp
  obtain ⟨l1, hk0, l4', n8', lf'⟩ := dmP_zero hp
  have n0 := beN_rng BY 1 3
  obtain ⟨n, hn⟩ := Int.eq_ofNat_of_zero_le n0.1
  have EN := hide hn
  rw [hn] at n8' lf' ⊢
  have n8 : n ≤ 8192 := by omega
  have lf : 4 + n ≤ ys.length := by omega
  have lx := LYH.out
  have hin : i + 4 + n ≤ xs.length := by omega
  have hii : i < xs.length := by omega
  have eN : dmN ys = n := by show (beN ys 1 3).toNat = n; rw [hn]; rfl
  have s1 : IntKind.i64.wrap ((i : Int) + 4) = (i : Int) + 4 := by rw [IntKind.wrap_i64]; omega
  have s2 : IntKind.i64.wrap ((i : Int) + 4 + (n : Int)) = (i : Int) + 4 + (n : Int) := by rw [IntKind.wrap_i64]; omega
  obtain ⟨off, ea, hcx⟩ := hr (by omega)
  subst ea
  have x0 : w.cell? ⟨g, off + i, none⟩ = some (.int .u8 k) := by
    have h := hcx i hii
    have e : xs.getD i 0 = k := by rw [← ek, ← eY, List.getD_eq_getElem?_getD, List.getD_eq_getElem?_getD, List.getElem?_drop, Nat.add_zero]
    rw [e] at h
    exact h
  have x1 : W1.cell? ⟨g, off + i, none⟩ = some (.int .u8 k) := (World.cell?_of_block (a := ⟨g, off + i, none⟩) (N.block g (block_lt_of_cell x0))).trans x0
  have b0 := BY 0
  rw [ek] at b0
  have wk : IntKind.i64.wrap k = k := by rw [IntKind.wrap_i64]; omega
  have M2 : W1.heap[mq]? = some (.map regE 9) := (N.block mq ml).trans hm
  have lk := regLook W1 mq M2 k
  rw [hV] at lk
  have HI := hide hi
  obtain ⟨zs, ez⟩ : ∃ zs, Hid (dmX ys = zs) := ⟨_, rfl⟩
  have ezx : (xs.drop (i + 4)).take n = zs := by
    rw [← ez.out]
    show _ = (ys.drop 4).take (dmN ys)
    rw [eN, ← eY, List.drop_drop]
  have lz : zs.length = n := by rw [← ezx, List.length_take, List.length_drop]; omega
  have bz : Byt zs := by rw [← ezx]; exact byt_takeQ (byt_drop hb _) _
  have gl : g < w.heap.size := block_lt_of_cell x0
  have RZ : Hid (∀ V, Below w.heap.size w V → Rd V g (slA (some ⟨g, off, none⟩) (i + 4) c) .u8 zs) := fun V nV => by
    rw [← ezx]
    exact (hr.up nV).sl hc (i + 4) n
  have ZN := slA_none (i := i + 4) hz
  have SLZ : ∀ V : World, (Instr.sliceAt 22 (.slice (some ⟨g, off, none⟩) xs.length c) (some (.int .i64 ((i : Int) + 4))) (some (.int .i64 ((i : Int) + 4 + (n : Int)))) none).run Tryz.prog V = .ok (.slice (slA (some ⟨g, off, none⟩) (i + 4) c) zs.length (c - (i + 4))) V := fun V => by
    rw [show ((i : Int) + 4) = ((i + 4 : Nat) : Int) by omega, show (((i + 4 : Nat) : Int) + (n : Int)) = ((i + 4 + n : Nat) : Int) by omega]
    exact sl_both V _ _ _ (i + 4) (i + 4 + n) zs.length (by omega) (by omega) (by omega)
  have lzc : zs.length ≤ c - (i + 4) := by omega
  obtain ⟨aZ, haZ⟩ : ∃ x, Hid (slA (some ⟨g, off, none⟩) (i + 4) c = x) := ⟨_, rfl⟩
  rw [haZ.out] at SLZ RZ ZN
  obtain ⟨cZ, hcZ⟩ : ∃ x, Hid (c - (i + 4) = x) := ⟨_, rfl⟩
  rw [hcZ.out] at SLZ ZN lzc
  obtain ⟨m, em⟩ : ∃ m, Hid (rdM k zs = m) := ⟨_, rfl⟩
  have EM : Hid (dmM ys = m) := by show rdM (ys.getD 0 0) (dmX ys) = m; rw [ek, ez.out]; exact em.out
  have LZ : zs.length ≤ 1048576 := by omega
  have hN : decide ((0 : Int) = 0) = true := rfl
  have GG : Hid (dmG ys = decide (mfF m = 0 ∧ bodF m = zs)) := by
    show _ = _
    unfold dmG
    rw [EM.out, ez.out]
  have iC : Hid (dmC xs (i : Int) = if dmG ys = true then 0 else 3) := by
    show _ = _
    unfold dmC
    rw [if_neg (by have := HI.out; omega), EY.out, if_neg (by rw [HP.out]; exact fun h => h rfl)]
  obtain ⟨gd, egd⟩ : ∃ b, Hid (decide (mfF m = 0 ∧ bodF m = zs) = b) := ⟨_, rfl⟩
  rw [egd.out] at GG
  have RWZ : Hid (∀ (V : World) (q : Nat), w.heap.size ≤ q → Below w.heap.size w V → RwC V q init S → Calls Tryz.prog 54 #[.iface T (.pointer (some ⟨q, 0, none⟩)), .slice aZ zs.length cZ] V fun e V' => e = .returned (.bool gd) ∧ (gd = true → RK cells nrm S V.heap.size q m V') ∧ Tch [q] V V') := fun V q hq nV hQ => by
    have := HRW.out V q g aZ cZ zs hQ (RZ.out V nV) bz (fun _ => by omega) ZN lzc LZ
    rw [em.out, egd.out] at this
    exact this
  have HPM : Hid (∀ (V : World) (q : Nat) (p : MQ), nrm p = p → RwC V q (cells p m) S → Calls Tryz.prog 55 #[.iface T (.pointer (some ⟨q, 0, none⟩))] V fun e V' => e = .returned (.agg (mgV p m)) ∧ Below V.heap.size V V') := fun V q p hn hQ => by
    have := HPL.out V q p zs hn
    rw [em.out] at this
    exact this hQ
  have ENN := hide eN
  have HIN := hide hin
  clear hr hcx hb hz hc hm x0 n0 hn eN lx lf n8 n8' lf' l4' l1 hk0 M1 M2 hp ek eY hV ezx lz bz lzc LZ RZ ZN HRW HPL hN ml gl hin
  go_wp2_with fail
  refine (HNW.out W1).mono ?_
  rintro e W2 ⟨rfl, Q2, n2⟩
  have lq : w.heap.size < W1.heap.size := Z.lt
  have Z2 := Z.up n2
  have N2 := nxt N n2
  clear Z N HNW x1 lk
  obtain ⟨q, hq⟩ : ∃ q, W1.heap.size = q := ⟨_, rfl⟩
  rw [hq] at Q2 lq ⊢
  clear hq n2
  have RC := hide (RWZ.out W2 q (by omega) N2 Q2)
  have l2 := N2.size
  have HQ2 := hide Q2
  have ql2 := Q2.lt
  clear Q2 RWZ
  go_wp2_with (refine wpList_slT _ rfl 22 (.tmp 47) (some (.tmp 48)) (some (.tmp 49)) rfl (.slice (some ⟨g, off, none⟩) xs.length c) (some (.int .i64 ((i : Int) + 4))) (some (.int .i64 ((i : Int) + 4 + (n : Int)))) rfl rfl rfl _ (SLZ _) ?_)
  refine RC.out.mono ?_
  rintro e W3 ⟨rfl, hG, T3⟩
  have Z3 : RwC W3 w.heap.size [.int .i64 0, .int .i64 0, .int .i64 0, .slice none 0 0, .slice none 0 0, .string ⟨#[]⟩, .slice none 0 0, .slice none 0 0, .int .i64 0, .int .i64 0, .slice none 0 0, .bool false, .slice none 0 0, .slice none 0 0, .int .i64 0] 28 := Z2.tch T3 (by simp; omega)
  have N3 : Below w.heap.size w W3 := N2.trans (T3.below l2 (by simp; omega))
  have HG := hide hG
  have l3 := T3.size
  clear RC Z2 N2 T3 HQ2 SLZ hG
  have Z := Z3
  have N := N3
  clear Z3 N3
  cases gd
  · go_upto_region 10 with fail
    have THR := Z.thereG
    have RR := World.rangeAt_setCells_same W3 w.heap.size 0 [.int .i64 3, .int .i64 0, .int .i64 0, .slice none 0 0, .slice none 0 0, .string ⟨#[]⟩, .slice none 0 0, .slice none 0 0, .int .i64 0, .int .i64 0, .slice none 0 0, .bool false, .slice none 0 0, .slice none 0 0, .int .i64 0] THR
    have OQ := only_setG W3 w.heap.size [.int .i64 3, .int .i64 0, .int .i64 0, .slice none 0 0, .slice none 0 0, .string ⟨#[]⟩, .slice none 0 0, .slice none 0 0, .int .i64 0, .int .i64 0, .slice none 0 0, .bool false, .slice none 0 0, .slice none 0 0, .int .i64 0] 0
    have RES : Hid (DcP w xs (i : Int) (Ending.returned (.agg #[.int .i64 3, .int .i64 0, .int .i64 0, .slice none 0 0, .slice none 0 0, .string ⟨#[]⟩, .slice none 0 0, .slice none 0 0, .int .i64 0, .int .i64 0, .slice none 0 0, .bool false, .slice none 0 0, .slice none 0 0, .int .i64 0])) ((W3.setCells w.heap.size 0 [.int .i64 3, .int .i64 0, .int .i64 0, .slice none 0 0, .slice none 0 0, .string ⟨#[]⟩, .slice none 0 0, .slice none 0 0, .int .i64 0, .int .i64 0, .slice none 0 0, .bool false, .slice none 0 0, .slice none 0 0, .int .i64 0]))) := by
      have hC : dmC xs (i : Int) = 3 := by rw [iC.out, GG.out]; rfl
      have hR : dmR xs (i : Int) = msg0 := by unfold dmR; rw [hC]; rfl
      have hE : dmE xs (i : Int) = 0 := by unfold dmE; rw [hC]; rfl
      show (∃ p bs F, Ending.returned (.agg #[.int .i64 3, .int .i64 0, .int .i64 0, .slice none 0 0, .slice none 0 0, .string ⟨#[]⟩, .slice none 0 0, .slice none 0 0, .int .i64 0, .int .i64 0, .slice none 0 0, .bool false, .slice none 0 0, .slice none 0 0, .int .i64 0]) = .returned (.agg (rsV (dmC xs (i : Int)) p (dmR xs (i : Int)) (dmE xs (i : Int)))) ∧ w.heap.size ≤ F 0 ∧ AnsM (W3.setCells w.heap.size 0 [.int .i64 3, .int .i64 0, .int .i64 0, .slice none 0 0, .slice none 0 0, .string ⟨#[]⟩, .slice none 0 0, .slice none 0 0, .int .i64 0, .int .i64 0, .slice none 0 0, .bool false, .slice none 0 0, .slice none 0 0, .int .i64 0]) F p (dmR xs (i : Int)) bs) ∧ Below w.heap.size w (W3.setCells w.heap.size 0 [.int .i64 3, .int .i64 0, .int .i64 0, .slice none 0 0, .slice none 0 0, .string ⟨#[]⟩, .slice none 0 0, .slice none 0 0, .int .i64 0, .int .i64 0, .slice none 0 0, .bool false, .slice none 0 0, .slice none 0 0, .int .i64 0])
      rw [hC, hR, hE]
      exact ⟨⟨mq0, [], fun _ => w.heap.size, rfl, Nat.le_refl _, AnsM.zero _ _⟩, N.trans (OQ.below (Nat.le_refl _))⟩
    clear OQ Z N
    go_wp2_with (refine wpList_store_mid rfl 28 (.tmp 6) (.tmp 53) rfl w.heap.size 0 #[.int .i64 3, .int .i64 0, .int .i64 0, .slice none 0 0, .slice none 0 0, .string ⟨#[]⟩, .slice none 0 0, .slice none 0 0, .int .i64 0, .int .i64 0, .slice none 0 0, .bool false, .slice none 0 0, .slice none 0 0, .int .i64 0] rfl rfl THR iMR (one15 _ rfl) ?_)
    exact bodyPost_ret (v := .agg #[.int .i64 3, .int .i64 0, .int .i64 0, .slice none 0 0, .slice none 0 0, .string ⟨#[]⟩, .slice none 0 0, .slice none 0 0, .int .i64 0, .int .i64 0, .slice none 0 0, .bool false, .slice none 0 0, .slice none 0 0, .int .i64 0]) (results_cellG Tryz.results24 _ _ w.heap.size _ d15 rfl RR hd15 hrow15 iMR) rfl RES.out
  · obtain ⟨p, bs, F, f1, f2, hQ, hA, hnr⟩ := HG.out rfl
    have PLC := hide (HPM.out W3 q p hnr hQ)
    have hC : Hid (dmC xs (i : Int) = 0) := by show _ = _; rw [iC.out, GG.out]; rfl
    have hR : Hid (dmR xs (i : Int) = m) := by show _ = _; unfold dmR; rw [if_pos hC.out, EY.out]; exact EM.out
    have hX : Hid (dmE xs (i : Int) = (i : Int) + 4 + (n : Int)) := by show _ = _; unfold dmE; rw [if_pos hC.out, EY.out, ENN.out]
    have HA := hide hA
    clear HPM HG hQ hA hnr
    go_wp2_with fail
    refine PLC.out.mono ?_
    rintro e W4 ⟨rfl, n4⟩
    have Z4 := Z.up n4
    have N4 := nxt N n4
    have A4 := HA.out.up n4
    clear Z N HA PLC n4
    unfold mgV
    have THR := Z4.thereG
    have OQ := only_setG W4 w.heap.size [.int .i64 0, .int .i64 m.k, .int .i64 m.v, .slice p.a2 m.r.length p.c2, .slice p.a3 m.s.length p.c3, .string ⟨⟨m.ho⟩⟩, .slice p.a5 m.pr.length p.c5, .slice p.a6 m.ti.length p.c6, .int .i64 m.ag, .int .i64 m.ea, .slice p.a9 m.bi.length p.c9, .bool m.rs, .slice p.a11 m.ce.length p.c11, .slice p.a12 m.pf.length p.c12, .int .i64 ((i : Int) + 4 + (n : Int))] 0
    have RR := World.rangeAt_setCells_same W4 w.heap.size 0 [.int .i64 0, .int .i64 m.k, .int .i64 m.v, .slice p.a2 m.r.length p.c2, .slice p.a3 m.s.length p.c3, .string ⟨⟨m.ho⟩⟩, .slice p.a5 m.pr.length p.c5, .slice p.a6 m.ti.length p.c6, .int .i64 m.ag, .int .i64 m.ea, .slice p.a9 m.bi.length p.c9, .bool m.rs, .slice p.a11 m.ce.length p.c11, .slice p.a12 m.pf.length p.c12, .int .i64 ((i : Int) + 4 + (n : Int))] THR
    have RES : Hid (DcP w xs (i : Int) (Ending.returned (.agg #[.int .i64 0, .int .i64 m.k, .int .i64 m.v, .slice p.a2 m.r.length p.c2, .slice p.a3 m.s.length p.c3, .string ⟨⟨m.ho⟩⟩, .slice p.a5 m.pr.length p.c5, .slice p.a6 m.ti.length p.c6, .int .i64 m.ag, .int .i64 m.ea, .slice p.a9 m.bi.length p.c9, .bool m.rs, .slice p.a11 m.ce.length p.c11, .slice p.a12 m.pf.length p.c12, .int .i64 ((i : Int) + 4 + (n : Int))])) ((W4.setCells w.heap.size 0 [.int .i64 0, .int .i64 m.k, .int .i64 m.v, .slice p.a2 m.r.length p.c2, .slice p.a3 m.s.length p.c3, .string ⟨⟨m.ho⟩⟩, .slice p.a5 m.pr.length p.c5, .slice p.a6 m.ti.length p.c6, .int .i64 m.ag, .int .i64 m.ea, .slice p.a9 m.bi.length p.c9, .bool m.rs, .slice p.a11 m.ce.length p.c11, .slice p.a12 m.pf.length p.c12, .int .i64 ((i : Int) + 4 + (n : Int))]))) := by
      show DcP _ _ _ _ _
      unfold DcP
      rw [hC.out, hR.out, hX.out]
      exact ⟨⟨p, bs, F, rfl, by omega, A4.onl OQ (by omega)⟩, N4.trans (OQ.below (Nat.le_refl _))⟩
    have ON : (#[.int .i64 0, .int .i64 m.k, .int .i64 m.v, .slice p.a2 m.r.length p.c2, .slice p.a3 m.s.length p.c3, .string ⟨⟨m.ho⟩⟩, .slice p.a5 m.pr.length p.c5, .slice p.a6 m.ti.length p.c6, .int .i64 m.ag, .int .i64 m.ea, .slice p.a9 m.bi.length p.c9, .bool m.rs, .slice p.a11 m.ce.length p.c11, .slice p.a12 m.pf.length p.c12, .int .i64 ((i : Int) + 4 + (n : Int))] : Array Value).all (·.oneCell') = true := one15m 0 p m ((i : Int) + 4 + (n : Int))
    have bld : ∀ U : World, (Instr.build 28 #[(1, .agg #[.int .i64 m.k, .int .i64 m.v, .slice p.a2 m.r.length p.c2, .slice p.a3 m.s.length p.c3, .string ⟨⟨m.ho⟩⟩, .slice p.a5 m.pr.length p.c5, .slice p.a6 m.ti.length p.c6, .int .i64 m.ag, .int .i64 m.ea, .slice p.a9 m.bi.length p.c9, .bool m.rs, .slice p.a11 m.ce.length p.c11, .slice p.a12 m.pf.length p.c12]), (2, .int .i64 ((i : Int) + 4 + (n : Int)))]).run Tryz.prog U = .ok (.agg #[.int .i64 0, .int .i64 m.k, .int .i64 m.v, .slice p.a2 m.r.length p.c2, .slice p.a3 m.s.length p.c3, .string ⟨⟨m.ho⟩⟩, .slice p.a5 m.pr.length p.c5, .slice p.a6 m.ti.length p.c6, .int .i64 m.ag, .int .i64 m.ea, .slice p.a9 m.bi.length p.c9, .bool m.rs, .slice p.a11 m.ce.length p.c11, .slice p.a12 m.pf.length p.c12, .int .i64 ((i : Int) + 4 + (n : Int))]) U := fun U => by kernel_rfl
    clear OQ Z4 N4 A4 hC hR hX
    go_wp2_with (first
      | (refine wpList_store_mid rfl 28 (.tmp 6) (.tmp 57) rfl w.heap.size 0 #[.int .i64 0, .int .i64 m.k, .int .i64 m.v, .slice p.a2 m.r.length p.c2, .slice p.a3 m.s.length p.c3, .string ⟨⟨m.ho⟩⟩, .slice p.a5 m.pr.length p.c5, .slice p.a6 m.ti.length p.c6, .int .i64 m.ag, .int .i64 m.ea, .slice p.a9 m.bi.length p.c9, .bool m.rs, .slice p.a11 m.ce.length p.c11, .slice p.a12 m.pf.length p.c12, .int .i64 ((i : Int) + 4 + (n : Int))] rfl rfl THR iMR ON ?_)
      | (refine wpList_buT _ rfl 28 #[(1, .tmp 55), (2, .tmp 56)] rfl #[(1, .agg #[.int .i64 m.k, .int .i64 m.v, .slice p.a2 m.r.length p.c2, .slice p.a3 m.s.length p.c3, .string ⟨⟨m.ho⟩⟩, .slice p.a5 m.pr.length p.c5, .slice p.a6 m.ti.length p.c6, .int .i64 m.ag, .int .i64 m.ea, .slice p.a9 m.bi.length p.c9, .bool m.rs, .slice p.a11 m.ce.length p.c11, .slice p.a12 m.pf.length p.c12]), (2, .int .i64 ((i : Int) + 4 + (n : Int)))] rfl _ (bld _) ?_))
    exact bodyPost_ret (v := .agg #[.int .i64 0, .int .i64 m.k, .int .i64 m.v, .slice p.a2 m.r.length p.c2, .slice p.a3 m.s.length p.c3, .string ⟨⟨m.ho⟩⟩, .slice p.a5 m.pr.length p.c5, .slice p.a6 m.ti.length p.c6, .int .i64 m.ag, .int .i64 m.ea, .slice p.a9 m.bi.length p.c9, .bool m.rs, .slice p.a11 m.ce.length p.c11, .slice p.a12 m.pf.length p.c12, .int .i64 ((i : Int) + 4 + (n : Int))]) (results_cellG Tryz.results24 _ _ w.heap.size _ d15 rfl RR hd15 hrow15 iMR) rfl RES.out
end Go.Proofs.YtdnkgmlidhepbaaGreat
