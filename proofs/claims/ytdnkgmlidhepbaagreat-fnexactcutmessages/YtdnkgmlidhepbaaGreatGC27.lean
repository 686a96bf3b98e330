import Derived.Test.YtdnkgmlidhepbaaGreatGC21
import Derived.Test.YtdnkgmlidhepbaaGreatGC22
import Derived.Test.YtdnkgmlidhepbaaGreatGCxMcPC
import Derived.Test.YtdnkgmlidhepbaaGreatGC23
import Derived.Test.YtdnkgmlidhepbaaGreatGCxMcPH
import Derived.Test.YtdnkgmlidhepbaaGreatGC24
import Derived.Test.YtdnkgmlidhepbaaGreatGC25
import Derived.Test.YtdnkgmlidhepbaaGreatGC26
import Derived.Test.YtdnkgmlidhepbaaGreatGC5
import Derived.Test.YtdnkgmlidhepbaaGreatGC10
namespace Go.Proofs.YtdnkgmlidhepbaaGreat
open Go Go.RowKit
theorem iMR : (Tryz.prog.info? 28).map (·.size) = some 15 := by kernel_rfl
theorem rowMR : ∃ d, Tryz.prog.underlying 28 = some d ∧ d.isRow = true := ⟨_, Tryz.underlying28, rfl⟩
theorem one15 (l : List Value) (h : l.all (·.oneCell') = true) : l.toArray.all (·.oneCell') = true := by simpa using h
theorem noM0 (g : Nat) : NoM g mq0 msg0 := ⟨(fun h => absurd h (by simp [msg0])), (fun h => absurd h (by simp [msg0])), (fun h => absurd h (by simp [msg0])), (fun h => absurd h (by simp [msg0])), (fun h => absurd h (by simp [msg0])), (fun h => absurd h (by simp [msg0])), (fun i h => absurd h (by simp [msg0])), (fun h => absurd h (by simp [msg0]))⟩
theorem specParse_any (w : World) (g : Nat) (a : Option Addr) (c : Nat) (xs : List Int) (k : Int) (hk : k ∈ kinds) (hr : Rd w g a .u8 xs) (hb : Byt xs) (hx : xs.length ≤ 8192) :
    Calls Tryz.prog 19 #[.int .i64 k, .slice a xs.length c] w fun e w' => (∃ p, e = .returned (.agg (mgV p (rdM k xs))) ∧ HasM w' p (rdM k xs) ∧ HasZ p (rdM k xs) ∧ TyM w' p (rdM k xs) ∧ ∀ g, g < w.heap.size → NoM g p (rdM k xs)) ∧ Below w.heap.size w w' := by
  have : k = 1 ∨ k = 2 ∨ k = 4 ∨ k = 5 ∨ k = 8 ∨ k = 11 ∨ k = 15 ∨ k = 20 ∨ k = 24 := by simpa [kinds] using hk
  rcases this with e | e | e | e | e | e | e | e | e <;> subst e
  · exact parseHello_any w g a c xs hr hb hx
  · exact parseAnswer_any w g a c xs hr hb hx
  · exact parseTicket_any w g a c xs hr hb hx
  · exact parseEnd_any w g a c xs hr hb hx
  · exact parseExtras_any w g a c xs hr hb hx
  · exact parseCerts_any w g a c xs hr hb hx
  · exact parseProof_any w g a c xs hr hb hx
  · exact parseFinished_any w g a c xs hr hb hx
  · exact parseUpdate_any w g a c xs hr hb hx
set_option maxRecDepth 100000 in
set_option maxHeartbeats 4000000 in
theorem specDM_out (w : World) (a : Option Addr) (c : Nat) (xs : List Int) (at_ : Int) (hx : xs.length ≤ 1048576) (ho : at_ < 0 ∨ (xs.length : Int) < at_) :
    Calls Tryz.prog 5 #[.slice a xs.length c, .int .i64 at_] w fun e w' => (∃ p, e = .returned (.agg (rsV (dmC xs at_) p (dmR xs at_) (dmE xs at_))) ∧ HasM w' p (dmR xs at_) ∧ ∀ b, b < w.heap.size → NoM b p (dmR xs at_)) ∧ Below w.heap.size w w' := by
  have HO := hide ho
  have hx' := hx
  clear hx
  have Z : RwC (w.alloc (.cells #[.int .i64 0, .int .i64 0, .int .i64 0, .slice none 0 0, .slice none 0 0, .string ⟨#[]⟩, .slice none 0 0, .slice none 0 0, .int .i64 0, .int .i64 0, .slice none 0 0, .bool false, .slice none 0 0, .slice none 0 0, .int .i64 0] 28)) w.heap.size [.int .i64 0, .int .i64 0, .int .i64 0, .slice none 0 0, .slice none 0 0, .string ⟨#[]⟩, .slice none 0 0, .slice none 0 0, .int .i64 0, .int .i64 0, .slice none 0 0, .bool false, .slice none 0 0, .slice none 0 0, .int .i64 0] 28 := RwC.new w _ _
  have N : Below w.heap.size w (w.alloc (.cells #[.int .i64 0, .int .i64 0, .int .i64 0, .slice none 0 0, .slice none 0 0, .string ⟨#[]⟩, .slice none 0 0, .slice none 0 0, .int .i64 0, .int .i64 0, .slice none 0 0, .bool false, .slice none 0 0, .slice none 0 0, .int .i64 0] 28)) := (Below.refl _ _).alloc (Nat.le_refl _) _
  obtain ⟨d15, hd15, hrow15⟩ := rowMR
  go_enter Tryz.func5, Tryz.ntmps5
  go_upto_region 1 with fail
  generalize w.alloc (.cells #[.int .i64 0, .int .i64 0, .int .i64 0, .slice none 0 0, .slice none 0 0, .string ⟨#[]⟩, .slice none 0 0, .slice none 0 0, .int .i64 0, .int .i64 0, .slice none 0 0, .bool false, .slice none 0 0, .slice none 0 0, .int .i64 0] 28) = W at *
  by_cases h0 : at_ < 0
  · have t0 : decide (at_ < 0) = true := decide_eq_true h0
    clear ho
    go_upto_region 2 with fail
    have THR := Z.thereG
    have RR := World.rangeAt_setCells_same W w.heap.size 0 [.int .i64 2, .int .i64 0, .int .i64 0, .slice none 0 0, .slice none 0 0, .string ⟨#[]⟩, .slice none 0 0, .slice none 0 0, .int .i64 0, .int .i64 0, .slice none 0 0, .bool false, .slice none 0 0, .slice none 0 0, .int .i64 0] THR
    have OQ := only_setG W w.heap.size [.int .i64 2, .int .i64 0, .int .i64 0, .slice none 0 0, .slice none 0 0, .string ⟨#[]⟩, .slice none 0 0, .slice none 0 0, .int .i64 0, .int .i64 0, .slice none 0 0, .bool false, .slice none 0 0, .slice none 0 0, .int .i64 0] 0
    have RES : Hid ((∃ p, Ending.returned (.agg #[.int .i64 2, .int .i64 0, .int .i64 0, .slice none 0 0, .slice none 0 0, .string ⟨#[]⟩, .slice none 0 0, .slice none 0 0, .int .i64 0, .int .i64 0, .slice none 0 0, .bool false, .slice none 0 0, .slice none 0 0, .int .i64 0]) = .returned (.agg (rsV (dmC xs at_) p (dmR xs at_) (dmE xs at_))) ∧ HasM (W.setCells w.heap.size 0 [.int .i64 2, .int .i64 0, .int .i64 0, .slice none 0 0, .slice none 0 0, .string ⟨#[]⟩, .slice none 0 0, .slice none 0 0, .int .i64 0, .int .i64 0, .slice none 0 0, .bool false, .slice none 0 0, .slice none 0 0, .int .i64 0]) p (dmR xs at_) ∧ ∀ b, b < w.heap.size → NoM b p (dmR xs at_)) ∧ Below w.heap.size w (W.setCells w.heap.size 0 [.int .i64 2, .int .i64 0, .int .i64 0, .slice none 0 0, .slice none 0 0, .string ⟨#[]⟩, .slice none 0 0, .slice none 0 0, .int .i64 0, .int .i64 0, .slice none 0 0, .bool false, .slice none 0 0, .slice none 0 0, .int .i64 0])) := by
      have hC : dmC xs at_ = 2 := by unfold dmC; rw [if_pos HO.out]
      have hR : dmR xs at_ = msg0 := by unfold dmR; rw [hC]; rfl
      have hE : dmE xs at_ = 0 := by unfold dmE; rw [hC]; rfl
      rw [hC, hR, hE]
      exact ⟨⟨mq0, rfl, hasM0 _, fun _ _ => noM0 _⟩, N.trans (OQ.below (Nat.le_refl _))⟩
    clear OQ Z N
    go_wp2_with (refine wpList_store_mid rfl 28 (.tmp 4) (.tmp 16) rfl w.heap.size 0 #[.int .i64 2, .int .i64 0, .int .i64 0, .slice none 0 0, .slice none 0 0, .string ⟨#[]⟩, .slice none 0 0, .slice none 0 0, .int .i64 0, .int .i64 0, .slice none 0 0, .bool false, .slice none 0 0, .slice none 0 0, .int .i64 0] rfl rfl THR iMR (one15 _ rfl) ?_)
    exact bodyPost_ret (v := .agg #[.int .i64 2, .int .i64 0, .int .i64 0, .slice none 0 0, .slice none 0 0, .string ⟨#[]⟩, .slice none 0 0, .slice none 0 0, .int .i64 0, .int .i64 0, .slice none 0 0, .bool false, .slice none 0 0, .slice none 0 0, .int .i64 0]) (results_cellG Tryz.results5 _ _ w.heap.size _ d15 rfl RR hd15 hrow15 iMR) rfl RES.out
  · have h1 : (xs.length : Int) < at_ := by omega
    have t0 : decide (at_ < 0) = false := decide_eq_false h0
    have t1 : decide ((xs.length : Int) < at_) = true := decide_eq_true h1
    clear ho
    go_upto_region 2 with fail
    have THR := Z.thereG
    have RR := World.rangeAt_setCells_same W w.heap.size 0 [.int .i64 2, .int .i64 0, .int .i64 0, .slice none 0 0, .slice none 0 0, .string ⟨#[]⟩, .slice none 0 0, .slice none 0 0, .int .i64 0, .int .i64 0, .slice none 0 0, .bool false, .slice none 0 0, .slice none 0 0, .int .i64 0] THR
    have OQ := only_setG W w.heap.size [.int .i64 2, .int .i64 0, .int .i64 0, .slice none 0 0, .slice none 0 0, .string ⟨#[]⟩, .slice none 0 0, .slice none 0 0, .int .i64 0, .int .i64 0, .slice none 0 0, .bool false, .slice none 0 0, .slice none 0 0, .int .i64 0] 0
    have RES : Hid ((∃ p, Ending.returned (.agg #[.int .i64 2, .int .i64 0, .int .i64 0, .slice none 0 0, .slice none 0 0, .string ⟨#[]⟩, .slice none 0 0, .slice none 0 0, .int .i64 0, .int .i64 0, .slice none 0 0, .bool false, .slice none 0 0, .slice none 0 0, .int .i64 0]) = .returned (.agg (rsV (dmC xs at_) p (dmR xs at_) (dmE xs at_))) ∧ HasM (W.setCells w.heap.size 0 [.int .i64 2, .int .i64 0, .int .i64 0, .slice none 0 0, .slice none 0 0, .string ⟨#[]⟩, .slice none 0 0, .slice none 0 0, .int .i64 0, .int .i64 0, .slice none 0 0, .bool false, .slice none 0 0, .slice none 0 0, .int .i64 0]) p (dmR xs at_) ∧ ∀ b, b < w.heap.size → NoM b p (dmR xs at_)) ∧ Below w.heap.size w (W.setCells w.heap.size 0 [.int .i64 2, .int .i64 0, .int .i64 0, .slice none 0 0, .slice none 0 0, .string ⟨#[]⟩, .slice none 0 0, .slice none 0 0, .int .i64 0, .int .i64 0, .slice none 0 0, .bool false, .slice none 0 0, .slice none 0 0, .int .i64 0])) := by
      have hC : dmC xs at_ = 2 := by unfold dmC; rw [if_pos HO.out]
      have hR : dmR xs at_ = msg0 := by unfold dmR; rw [hC]; rfl
      have hE : dmE xs at_ = 0 := by unfold dmE; rw [hC]; rfl
      rw [hC, hR, hE]
      exact ⟨⟨mq0, rfl, hasM0 _, fun _ _ => noM0 _⟩, N.trans (OQ.below (Nat.le_refl _))⟩
    clear OQ Z N
    go_wp2_with (refine wpList_store_mid rfl 28 (.tmp 4) (.tmp 16) rfl w.heap.size 0 #[.int .i64 2, .int .i64 0, .int .i64 0, .slice none 0 0, .slice none 0 0, .string ⟨#[]⟩, .slice none 0 0, .slice none 0 0, .int .i64 0, .int .i64 0, .slice none 0 0, .bool false, .slice none 0 0, .slice none 0 0, .int .i64 0] rfl rfl THR iMR (one15 _ rfl) ?_)
    exact bodyPost_ret (v := .agg #[.int .i64 2, .int .i64 0, .int .i64 0, .slice none 0 0, .slice none 0 0, .string ⟨#[]⟩, .slice none 0 0, .slice none 0 0, .int .i64 0, .int .i64 0, .slice none 0 0, .bool false, .slice none 0 0, .slice none 0 0, .int .i64 0]) (results_cellG Tryz.results5 _ _ w.heap.size _ d15 rfl RR hd15 hrow15 iMR) rfl RES.out
set_option maxRecDepth 100000 in
set_option maxHeartbeats 4000000 in
theorem specDM_pre (w : World) (g : Nat) (a : Option Addr) (c : Nat) (xs : List Int) (i : Nat) (hi : i ≤ xs.length) (hr : Rd w g a .u8 xs) (hb : Byt xs) (hz : a = none → c = 0) (hc : xs.length ≤ c) (hx : xs.length ≤ 1048576) (hp : dmP (xs.drop i) ≠ 0) :
    Calls Tryz.prog 5 #[.slice a xs.length c, .int .i64 (i : Int)] w fun e w' => (∃ p, e = .returned (.agg (rsV (dmC xs (i : Int)) p (dmR xs (i : Int)) (dmE xs (i : Int)))) ∧ HasM w' p (dmR xs (i : Int)) ∧ ∀ b, b < w.heap.size → NoM b p (dmR xs (i : Int))) ∧ Below w.heap.size w w' := by
  have Z : RwC (w.alloc (.cells #[.int .i64 0, .int .i64 0, .int .i64 0, .slice none 0 0, .slice none 0 0, .string ⟨#[]⟩, .slice none 0 0, .slice none 0 0, .int .i64 0, .int .i64 0, .slice none 0 0, .bool false, .slice none 0 0, .slice none 0 0, .int .i64 0] 28)) w.heap.size [.int .i64 0, .int .i64 0, .int .i64 0, .slice none 0 0, .slice none 0 0, .string ⟨#[]⟩, .slice none 0 0, .slice none 0 0, .int .i64 0, .int .i64 0, .slice none 0 0, .bool false, .slice none 0 0, .slice none 0 0, .int .i64 0] 28 := RwC.new w _ _
  have N : Below w.heap.size w (w.alloc (.cells #[.int .i64 0, .int .i64 0, .int .i64 0, .slice none 0 0, .slice none 0 0, .string ⟨#[]⟩, .slice none 0 0, .slice none 0 0, .int .i64 0, .int .i64 0, .slice none 0 0, .bool false, .slice none 0 0, .slice none 0 0, .int .i64 0] 28)) := (Below.refl _ _).alloc (Nat.le_refl _) _
  obtain ⟨d15, hd15, hrow15⟩ := rowMR
  go_enter Tryz.func5, Tryz.ntmps5
  go_upto_region 1 with fail
  generalize w.alloc (.cells #[.int .i64 0, .int .i64 0, .int .i64 0, .slice none 0 0, .slice none 0 0, .string ⟨#[]⟩, .slice none 0 0, .slice none 0 0, .int .i64 0, .int .i64 0, .slice none 0 0, .bool false, .slice none 0 0, .slice none 0 0, .int .i64 0] 28) = W at *
  have t0 : decide ((i : Int) < 0) = false := decide_eq_false (by omega)
  have t1 : decide ((xs.length : Int) < (i : Int)) = false := decide_eq_false (by omega)
  go_upto_region 3 with fail
  obtain ⟨ys, ey⟩ : ∃ ys, xs.drop i = ys := ⟨_, rfl⟩
  have ly : ys.length = xs.length - i := by rw [← ey, List.length_drop]
  have SLC := sl_low W a xs.length c i ys.length hi hc ly
  have RY : Rd W g (slA a i c) .u8 ys := by rw [← ey]; exact (hr.up N).slD hc i
  have zY := fun h => slA_none (i := i) hz h
  have cY : ys.length ≤ c - i := by omega
  have BY : Byt ys := by rw [← ey]; exact byt_drop hb i
  have LY : ys.length ≤ 1048576 := by omega
  have EY : Hid (xs.drop ((i : Int)).toNat = ys) := ey
  have ZY := hide zY
  clear ly ey hr hb hz hc zY t0 t1
  generalize slA a i c = aR at *
  generalize c - i = cR at *
  go_upto_region 4 with (refine wpList_slT _ rfl 22 (.tmp 17) (some (.tmp 18)) none rfl (.slice a xs.length c) (some (.int .i64 (i : Int))) none rfl rfl rfl _ SLC ?_)
  clear SLC
  have HP := hide hp
  have HI := hide hi
  clear hp
  by_cases l0 : ys.length = 0
  · have u1 : decide ((1 : Int) ≤ (ys.length : Int)) = false := decide_eq_false (by omega)
    have u2 : decide ((ys.length : Int) < 4) = true := decide_eq_true (by omega)
    have eP : Hid (dmP ys = 1) := by show _ = _; unfold dmP; rw [if_pos l0]
    clear l0
    go_upto_region 7 with fail
    have THR := Z.thereG
    have RR := World.rangeAt_setCells_same W w.heap.size 0 [.int .i64 1, .int .i64 0, .int .i64 0, .slice none 0 0, .slice none 0 0, .string ⟨#[]⟩, .slice none 0 0, .slice none 0 0, .int .i64 0, .int .i64 0, .slice none 0 0, .bool false, .slice none 0 0, .slice none 0 0, .int .i64 0] THR
    have OQ := only_setG W w.heap.size [.int .i64 1, .int .i64 0, .int .i64 0, .slice none 0 0, .slice none 0 0, .string ⟨#[]⟩, .slice none 0 0, .slice none 0 0, .int .i64 0, .int .i64 0, .slice none 0 0, .bool false, .slice none 0 0, .slice none 0 0, .int .i64 0] 0
    have RES : Hid ((∃ p, Ending.returned (.agg #[.int .i64 1, .int .i64 0, .int .i64 0, .slice none 0 0, .slice none 0 0, .string ⟨#[]⟩, .slice none 0 0, .slice none 0 0, .int .i64 0, .int .i64 0, .slice none 0 0, .bool false, .slice none 0 0, .slice none 0 0, .int .i64 0]) = .returned (.agg (rsV (dmC xs (i : Int)) p (dmR xs (i : Int)) (dmE xs (i : Int)))) ∧ HasM (W.setCells w.heap.size 0 [.int .i64 1, .int .i64 0, .int .i64 0, .slice none 0 0, .slice none 0 0, .string ⟨#[]⟩, .slice none 0 0, .slice none 0 0, .int .i64 0, .int .i64 0, .slice none 0 0, .bool false, .slice none 0 0, .slice none 0 0, .int .i64 0]) p (dmR xs (i : Int)) ∧ ∀ b, b < w.heap.size → NoM b p (dmR xs (i : Int))) ∧ Below w.heap.size w (W.setCells w.heap.size 0 [.int .i64 1, .int .i64 0, .int .i64 0, .slice none 0 0, .slice none 0 0, .string ⟨#[]⟩, .slice none 0 0, .slice none 0 0, .int .i64 0, .int .i64 0, .slice none 0 0, .bool false, .slice none 0 0, .slice none 0 0, .int .i64 0])) := by
      have hC : dmC xs (i : Int) = 1 := by unfold dmC; rw [if_neg (by omega), if_pos (by rw [EY.out, eP.out]; decide), EY.out, eP.out]
      have hR : dmR xs (i : Int) = msg0 := by unfold dmR; rw [hC]; rfl
      have hE : dmE xs (i : Int) = 0 := by unfold dmE; rw [hC]; rfl
      rw [hC, hR, hE]
      exact ⟨⟨mq0, rfl, hasM0 _, fun _ _ => noM0 _⟩, N.trans (OQ.below (Nat.le_refl _))⟩
    clear OQ Z N
    go_wp2_with (refine wpList_store_mid rfl 28 (.tmp 4) (.tmp 35) rfl w.heap.size 0 #[.int .i64 1, .int .i64 0, .int .i64 0, .slice none 0 0, .slice none 0 0, .string ⟨#[]⟩, .slice none 0 0, .slice none 0 0, .int .i64 0, .int .i64 0, .slice none 0 0, .bool false, .slice none 0 0, .slice none 0 0, .int .i64 0] rfl rfl THR iMR (one15 _ rfl) ?_)
    exact bodyPost_ret (v := .agg #[.int .i64 1, .int .i64 0, .int .i64 0, .slice none 0 0, .slice none 0 0, .string ⟨#[]⟩, .slice none 0 0, .slice none 0 0, .int .i64 0, .int .i64 0, .slice none 0 0, .bool false, .slice none 0 0, .slice none 0 0, .int .i64 0]) (results_cellG Tryz.results5 _ _ w.heap.size _ d15 rfl RR hd15 hrow15 iMR) rfl RES.out
  have l1 : 0 < ys.length := by omega
  obtain ⟨off, rfl, hc0⟩ := RY l1
  have x0 : W.cell? ⟨g, off, none⟩ = some (.int .u8 (ys.getD 0 0)) := hc0 0 l1
  have b0 := BY 0
  have u1 : decide ((1 : Int) ≤ (ys.length : Int)) = true := decide_eq_true (by omega)
  have HC := hide hc0
  clear hc0
  obtain ⟨k, ek⟩ : ∃ k, Hid (ys.getD 0 0 = k) := ⟨_, rfl⟩
  rw [ek.out] at x0 b0
  go_wp2_with fail
  refine (l13Known_any W k).mono ?_
  rintro e W1 ⟨rfl, n1⟩
  have Z1 := Z.up n1
  have N1 := nxt N n1
  have HC1 : Hid (∀ j, j < ys.length → W1.cell? ⟨g, off + j, none⟩ = some (.int .u8 (ys.getD j 0))) := fun j hj => (World.cell?_of_block (a := ⟨g, off + j, none⟩) (n1.block g (block_lt_of_cell (HC.out j hj)))).trans (HC.out j hj)
  clear Z N n1 HC x0
  have Z := Z1
  have N := N1
  clear Z1 N1
  by_cases hk : k ∈ kinds
  rotate_left
  · have eP : Hid (dmP ys = 2) := by show _ = _; unfold dmP; rw [if_neg l0, if_pos (by rw [ek.out]; exact hk)]
    have u3 : decide (k ∈ kinds) = false := decide_eq_false hk
    rw [u3]
    clear u3 hk
    go_upto_region 5 with fail
    have THR := Z.thereG
    have RR := World.rangeAt_setCells_same W1 w.heap.size 0 [.int .i64 2, .int .i64 0, .int .i64 0, .slice none 0 0, .slice none 0 0, .string ⟨#[]⟩, .slice none 0 0, .slice none 0 0, .int .i64 0, .int .i64 0, .slice none 0 0, .bool false, .slice none 0 0, .slice none 0 0, .int .i64 0] THR
    have OQ := only_setG W1 w.heap.size [.int .i64 2, .int .i64 0, .int .i64 0, .slice none 0 0, .slice none 0 0, .string ⟨#[]⟩, .slice none 0 0, .slice none 0 0, .int .i64 0, .int .i64 0, .slice none 0 0, .bool false, .slice none 0 0, .slice none 0 0, .int .i64 0] 0
    have RES : Hid ((∃ p, Ending.returned (.agg #[.int .i64 2, .int .i64 0, .int .i64 0, .slice none 0 0, .slice none 0 0, .string ⟨#[]⟩, .slice none 0 0, .slice none 0 0, .int .i64 0, .int .i64 0, .slice none 0 0, .bool false, .slice none 0 0, .slice none 0 0, .int .i64 0]) = .returned (.agg (rsV (dmC xs (i : Int)) p (dmR xs (i : Int)) (dmE xs (i : Int)))) ∧ HasM (W1.setCells w.heap.size 0 [.int .i64 2, .int .i64 0, .int .i64 0, .slice none 0 0, .slice none 0 0, .string ⟨#[]⟩, .slice none 0 0, .slice none 0 0, .int .i64 0, .int .i64 0, .slice none 0 0, .bool false, .slice none 0 0, .slice none 0 0, .int .i64 0]) p (dmR xs (i : Int)) ∧ ∀ b, b < w.heap.size → NoM b p (dmR xs (i : Int))) ∧ Below w.heap.size w (W1.setCells w.heap.size 0 [.int .i64 2, .int .i64 0, .int .i64 0, .slice none 0 0, .slice none 0 0, .string ⟨#[]⟩, .slice none 0 0, .slice none 0 0, .int .i64 0, .int .i64 0, .slice none 0 0, .bool false, .slice none 0 0, .slice none 0 0, .int .i64 0])) := by
      have hC : dmC xs (i : Int) = 2 := by unfold dmC; rw [if_neg (by omega), if_pos (by rw [EY.out, eP.out]; decide), EY.out, eP.out]
      have hR : dmR xs (i : Int) = msg0 := by unfold dmR; rw [hC]; rfl
      have hE : dmE xs (i : Int) = 0 := by unfold dmE; rw [hC]; rfl
      rw [hC, hR, hE]
      exact ⟨⟨mq0, rfl, hasM0 _, fun _ _ => noM0 _⟩, N.trans (OQ.below (Nat.le_refl _))⟩
    clear OQ Z N
    go_wp2_with (refine wpList_store_mid rfl 28 (.tmp 4) (.tmp 31) rfl w.heap.size 0 #[.int .i64 2, .int .i64 0, .int .i64 0, .slice none 0 0, .slice none 0 0, .string ⟨#[]⟩, .slice none 0 0, .slice none 0 0, .int .i64 0, .int .i64 0, .slice none 0 0, .bool false, .slice none 0 0, .slice none 0 0, .int .i64 0] rfl rfl THR iMR (one15 _ rfl) ?_)
    exact bodyPost_ret (v := .agg #[.int .i64 2, .int .i64 0, .int .i64 0, .slice none 0 0, .slice none 0 0, .string ⟨#[]⟩, .slice none 0 0, .slice none 0 0, .int .i64 0, .int .i64 0, .slice none 0 0, .bool false, .slice none 0 0, .slice none 0 0, .int .i64 0]) (results_cellG Tryz.results5 _ _ w.heap.size _ d15 rfl RR hd15 hrow15 iMR) rfl RES.out
  have u3 : decide (k ∈ kinds) = true := decide_eq_true hk
  rw [u3]
  clear u3
  by_cases l4 : ys.length < 4
  · have u2 : decide ((ys.length : Int) < 4) = true := decide_eq_true (by omega)
    have eP : Hid (dmP ys = 1) := by show _ = _; unfold dmP; rw [if_neg l0, if_neg (by rw [ek.out]; exact fun h => h hk), if_pos l4]
    clear hk l4
    go_upto_region 7 with fail
    have THR := Z.thereG
    have RR := World.rangeAt_setCells_same W1 w.heap.size 0 [.int .i64 1, .int .i64 0, .int .i64 0, .slice none 0 0, .slice none 0 0, .string ⟨#[]⟩, .slice none 0 0, .slice none 0 0, .int .i64 0, .int .i64 0, .slice none 0 0, .bool false, .slice none 0 0, .slice none 0 0, .int .i64 0] THR
    have OQ := only_setG W1 w.heap.size [.int .i64 1, .int .i64 0, .int .i64 0, .slice none 0 0, .slice none 0 0, .string ⟨#[]⟩, .slice none 0 0, .slice none 0 0, .int .i64 0, .int .i64 0, .slice none 0 0, .bool false, .slice none 0 0, .slice none 0 0, .int .i64 0] 0
    have RES : Hid ((∃ p, Ending.returned (.agg #[.int .i64 1, .int .i64 0, .int .i64 0, .slice none 0 0, .slice none 0 0, .string ⟨#[]⟩, .slice none 0 0, .slice none 0 0, .int .i64 0, .int .i64 0, .slice none 0 0, .bool false, .slice none 0 0, .slice none 0 0, .int .i64 0]) = .returned (.agg (rsV (dmC xs (i : Int)) p (dmR xs (i : Int)) (dmE xs (i : Int)))) ∧ HasM (W1.setCells w.heap.size 0 [.int .i64 1, .int .i64 0, .int .i64 0, .slice none 0 0, .slice none 0 0, .string ⟨#[]⟩, .slice none 0 0, .slice none 0 0, .int .i64 0, .int .i64 0, .slice none 0 0, .bool false, .slice none 0 0, .slice none 0 0, .int .i64 0]) p (dmR xs (i : Int)) ∧ ∀ b, b < w.heap.size → NoM b p (dmR xs (i : Int))) ∧ Below w.heap.size w (W1.setCells w.heap.size 0 [.int .i64 1, .int .i64 0, .int .i64 0, .slice none 0 0, .slice none 0 0, .string ⟨#[]⟩, .slice none 0 0, .slice none 0 0, .int .i64 0, .int .i64 0, .slice none 0 0, .bool false, .slice none 0 0, .slice none 0 0, .int .i64 0])) := by
      have hC : dmC xs (i : Int) = 1 := by unfold dmC; rw [if_neg (by omega), if_pos (by rw [EY.out, eP.out]; decide), EY.out, eP.out]
      have hR : dmR xs (i : Int) = msg0 := by unfold dmR; rw [hC]; rfl
      have hE : dmE xs (i : Int) = 0 := by unfold dmE; rw [hC]; rfl
      rw [hC, hR, hE]
      exact ⟨⟨mq0, rfl, hasM0 _, fun _ _ => noM0 _⟩, N.trans (OQ.below (Nat.le_refl _))⟩
    clear OQ Z N
    go_wp2_with (refine wpList_store_mid rfl 28 (.tmp 4) (.tmp 35) rfl w.heap.size 0 #[.int .i64 1, .int .i64 0, .int .i64 0, .slice none 0 0, .slice none 0 0, .string ⟨#[]⟩, .slice none 0 0, .slice none 0 0, .int .i64 0, .int .i64 0, .slice none 0 0, .bool false, .slice none 0 0, .slice none 0 0, .int .i64 0] rfl rfl THR iMR (one15 _ rfl) ?_)
    exact bodyPost_ret (v := .agg #[.int .i64 1, .int .i64 0, .int .i64 0, .slice none 0 0, .slice none 0 0, .string ⟨#[]⟩, .slice none 0 0, .slice none 0 0, .int .i64 0, .int .i64 0, .slice none 0 0, .bool false, .slice none 0 0, .slice none 0 0, .int .i64 0]) (results_cellG Tryz.results5 _ _ w.heap.size _ d15 rfl RR hd15 hrow15 iMR) rfl RES.out
  have x1 := HC1.out 1 (by omega)
  have x2 := HC1.out 2 (by omega)
  have x3 := HC1.out 3 (by omega)
  have b1 := BY 1
  have b2 := BY 2
  have b3 := BY 3
  have en : beN ys 1 3 = (ys.getD 1 0 * 256 + ys.getD 2 0) * 256 + ys.getD 3 0 := by
    show ((0 * 256 + ys.getD 1 0) * 256 + ys.getD 2 0) * 256 + ys.getD 3 0 = _
    omega
  obtain ⟨y1, q1⟩ : ∃ k, Hid (ys.getD 1 0 = k) := ⟨_, rfl⟩
  obtain ⟨y2, q2⟩ : ∃ k, Hid (ys.getD 2 0 = k) := ⟨_, rfl⟩
  obtain ⟨y3, q3⟩ : ∃ k, Hid (ys.getD 3 0 = k) := ⟨_, rfl⟩
  rw [q1.out] at x1 b1 en
  rw [q2.out] at x2 b2 en
  rw [q3.out] at x3 b3 en
  have i1 : (1 : Int) < (ys.length : Int) := by omega
  have i2 : (2 : Int) < (ys.length : Int) := by omega
  have i3 : (3 : Int) < (ys.length : Int) := by omega
  have u2 : decide ((ys.length : Int) < 4) = false := decide_eq_false (by omega)
  obtain ⟨n, hn⟩ := Int.eq_ofNat_of_zero_le (show 0 ≤ y1 * 65536 + y2 * 256 + y3 by omega)
  have EN : Hid (beN ys 1 3 = (n : Int)) := by show _ = _; omega
  have nn : n < 16777216 := by omega
  have s1 : IntKind.i64.wrap (y1 * 65536) = y1 * 65536 := by rw [IntKind.wrap_i64]; omega
  have s2 : IntKind.i64.wrap (y2 * 256) = y2 * 256 := by rw [IntKind.wrap_i64]; omega
  have s3 : IntKind.i64.wrap (y1 * 65536 + y2 * 256) = y1 * 65536 + y2 * 256 := by rw [IntKind.wrap_i64]; omega
  have s4 : IntKind.i64.wrap (y1 * 65536 + y2 * 256 + y3) = y1 * 65536 + y2 * 256 + y3 := by rw [IntKind.wrap_i64]; omega
  have HN := hide hn
  clear hn en
  go_upto_region 8 with fail
  go_quiet (fail)
  have Z1 : RwC (W1.drewN nq) w.heap.size [.int .i64 0, .int .i64 0, .int .i64 0, .slice none 0 0, .slice none 0 0, .string ⟨#[]⟩, .slice none 0 0, .slice none 0 0, .int .i64 0, .int .i64 0, .slice none 0 0, .bool false, .slice none 0 0, .slice none 0 0, .int .i64 0] 28 := Z
  have N1 : Below w.heap.size w (W1.drewN nq) := below_drewN N _
  have HC2 : Hid (∀ j, j < ys.length → (W1.drewN nq).cell? ⟨g, off + j, none⟩ = some (.int .u8 (ys.getD j 0))) := HC1.out
  clear Z N HC1 x1 x2 x3 s1 s2 s3 s4 u2
  generalize W1.drewN nq = W2 at *
  have Z := Z1
  have N := N1
  clear Z1 N1
  rw [HN.out]
  clear HN b1 b2 b3 q1 q2 q3 i1 i2 i3
  by_cases n8 : 8192 < n
  · have u4 : decide ((8192 : Int) < (n : Int)) = true := decide_eq_true (by omega)
    have eP : Hid (dmP ys = 2) := by show _ = _; unfold dmP; rw [if_neg l0, if_neg (by rw [ek.out]; exact fun h => h hk), if_neg l4, if_pos (by rw [EN.out]; omega)]
    clear hk n8
    go_upto_region 10 with fail
    have THR := Z.thereG
    have RR := World.rangeAt_setCells_same W2 w.heap.size 0 [.int .i64 2, .int .i64 0, .int .i64 0, .slice none 0 0, .slice none 0 0, .string ⟨#[]⟩, .slice none 0 0, .slice none 0 0, .int .i64 0, .int .i64 0, .slice none 0 0, .bool false, .slice none 0 0, .slice none 0 0, .int .i64 0] THR
    have OQ := only_setG W2 w.heap.size [.int .i64 2, .int .i64 0, .int .i64 0, .slice none 0 0, .slice none 0 0, .string ⟨#[]⟩, .slice none 0 0, .slice none 0 0, .int .i64 0, .int .i64 0, .slice none 0 0, .bool false, .slice none 0 0, .slice none 0 0, .int .i64 0] 0
    have RES : Hid ((∃ p, Ending.returned (.agg #[.int .i64 2, .int .i64 0, .int .i64 0, .slice none 0 0, .slice none 0 0, .string ⟨#[]⟩, .slice none 0 0, .slice none 0 0, .int .i64 0, .int .i64 0, .slice none 0 0, .bool false, .slice none 0 0, .slice none 0 0, .int .i64 0]) = .returned (.agg (rsV (dmC xs (i : Int)) p (dmR xs (i : Int)) (dmE xs (i : Int)))) ∧ HasM (W2.setCells w.heap.size 0 [.int .i64 2, .int .i64 0, .int .i64 0, .slice none 0 0, .slice none 0 0, .string ⟨#[]⟩, .slice none 0 0, .slice none 0 0, .int .i64 0, .int .i64 0, .slice none 0 0, .bool false, .slice none 0 0, .slice none 0 0, .int .i64 0]) p (dmR xs (i : Int)) ∧ ∀ b, b < w.heap.size → NoM b p (dmR xs (i : Int))) ∧ Below w.heap.size w (W2.setCells w.heap.size 0 [.int .i64 2, .int .i64 0, .int .i64 0, .slice none 0 0, .slice none 0 0, .string ⟨#[]⟩, .slice none 0 0, .slice none 0 0, .int .i64 0, .int .i64 0, .slice none 0 0, .bool false, .slice none 0 0, .slice none 0 0, .int .i64 0])) := by
      have hC : dmC xs (i : Int) = 2 := by unfold dmC; rw [if_neg (by omega), if_pos (by rw [EY.out, eP.out]; decide), EY.out, eP.out]
      have hR : dmR xs (i : Int) = msg0 := by unfold dmR; rw [hC]; rfl
      have hE : dmE xs (i : Int) = 0 := by unfold dmE; rw [hC]; rfl
      rw [hC, hR, hE]
      exact ⟨⟨mq0, rfl, hasM0 _, fun _ _ => noM0 _⟩, N.trans (OQ.below (Nat.le_refl _))⟩
    clear OQ Z N
    go_wp2_with (refine wpList_store_mid rfl 28 (.tmp 4) (.tmp 54) rfl w.heap.size 0 #[.int .i64 2, .int .i64 0, .int .i64 0, .slice none 0 0, .slice none 0 0, .string ⟨#[]⟩, .slice none 0 0, .slice none 0 0, .int .i64 0, .int .i64 0, .slice none 0 0, .bool false, .slice none 0 0, .slice none 0 0, .int .i64 0] rfl rfl THR iMR (one15 _ rfl) ?_)
    exact bodyPost_ret (v := .agg #[.int .i64 2, .int .i64 0, .int .i64 0, .slice none 0 0, .slice none 0 0, .string ⟨#[]⟩, .slice none 0 0, .slice none 0 0, .int .i64 0, .int .i64 0, .slice none 0 0, .bool false, .slice none 0 0, .slice none 0 0, .int .i64 0]) (results_cellG Tryz.results5 _ _ w.heap.size _ d15 rfl RR hd15 hrow15 iMR) rfl RES.out
  have u4 : decide ((8192 : Int) < (n : Int)) = false := decide_eq_false (by omega)
  have s5 : IntKind.i64.wrap (4 + (n : Int)) = 4 + (n : Int) := by rw [IntKind.wrap_i64]; omega
  by_cases lf : ys.length < 4 + n
  · have u5 : decide ((ys.length : Int) < 4 + (n : Int)) = true := decide_eq_true (by omega)
    have eP : Hid (dmP ys = 1) := by show _ = _; unfold dmP; rw [if_neg l0, if_neg (by rw [ek.out]; exact fun h => h hk), if_neg l4, if_neg (by rw [EN.out]; omega), if_pos (by rw [EN.out]; omega)]
    clear hk lf
    go_upto_region 12 with fail
    have THR := Z.thereG
    have RR := World.rangeAt_setCells_same W2 w.heap.size 0 [.int .i64 1, .int .i64 0, .int .i64 0, .slice none 0 0, .slice none 0 0, .string ⟨#[]⟩, .slice none 0 0, .slice none 0 0, .int .i64 0, .int .i64 0, .slice none 0 0, .bool false, .slice none 0 0, .slice none 0 0, .int .i64 0] THR
    have OQ := only_setG W2 w.heap.size [.int .i64 1, .int .i64 0, .int .i64 0, .slice none 0 0, .slice none 0 0, .string ⟨#[]⟩, .slice none 0 0, .slice none 0 0, .int .i64 0, .int .i64 0, .slice none 0 0, .bool false, .slice none 0 0, .slice none 0 0, .int .i64 0] 0
    have RES : Hid ((∃ p, Ending.returned (.agg #[.int .i64 1, .int .i64 0, .int .i64 0, .slice none 0 0, .slice none 0 0, .string ⟨#[]⟩, .slice none 0 0, .slice none 0 0, .int .i64 0, .int .i64 0, .slice none 0 0, .bool false, .slice none 0 0, .slice none 0 0, .int .i64 0]) = .returned (.agg (rsV (dmC xs (i : Int)) p (dmR xs (i : Int)) (dmE xs (i : Int)))) ∧ HasM (W2.setCells w.heap.size 0 [.int .i64 1, .int .i64 0, .int .i64 0, .slice none 0 0, .slice none 0 0, .string ⟨#[]⟩, .slice none 0 0, .slice none 0 0, .int .i64 0, .int .i64 0, .slice none 0 0, .bool false, .slice none 0 0, .slice none 0 0, .int .i64 0]) p (dmR xs (i : Int)) ∧ ∀ b, b < w.heap.size → NoM b p (dmR xs (i : Int))) ∧ Below w.heap.size w (W2.setCells w.heap.size 0 [.int .i64 1, .int .i64 0, .int .i64 0, .slice none 0 0, .slice none 0 0, .string ⟨#[]⟩, .slice none 0 0, .slice none 0 0, .int .i64 0, .int .i64 0, .slice none 0 0, .bool false, .slice none 0 0, .slice none 0 0, .int .i64 0])) := by
      have hC : dmC xs (i : Int) = 1 := by unfold dmC; rw [if_neg (by omega), if_pos (by rw [EY.out, eP.out]; decide), EY.out, eP.out]
      have hR : dmR xs (i : Int) = msg0 := by unfold dmR; rw [hC]; rfl
      have hE : dmE xs (i : Int) = 0 := by unfold dmE; rw [hC]; rfl
      rw [hC, hR, hE]
      exact ⟨⟨mq0, rfl, hasM0 _, fun _ _ => noM0 _⟩, N.trans (OQ.below (Nat.le_refl _))⟩
    clear OQ Z N
    go_wp2_with (refine wpList_store_mid rfl 28 (.tmp 4) (.tmp 60) rfl w.heap.size 0 #[.int .i64 1, .int .i64 0, .int .i64 0, .slice none 0 0, .slice none 0 0, .string ⟨#[]⟩, .slice none 0 0, .slice none 0 0, .int .i64 0, .int .i64 0, .slice none 0 0, .bool false, .slice none 0 0, .slice none 0 0, .int .i64 0] rfl rfl THR iMR (one15 _ rfl) ?_)
    exact bodyPost_ret (v := .agg #[.int .i64 1, .int .i64 0, .int .i64 0, .slice none 0 0, .slice none 0 0, .string ⟨#[]⟩, .slice none 0 0, .slice none 0 0, .int .i64 0, .int .i64 0, .slice none 0 0, .bool false, .slice none 0 0, .slice none 0 0, .int .i64 0]) (results_cellG Tryz.results5 _ _ w.heap.size _ d15 rfl RR hd15 hrow15 iMR) rfl RES.out
  exfalso
  refine HP.out ?_
  have e := EY.out
  rw [show ((i : Int)).toNat = i from rfl] at e
  rw [e]
  unfold dmP
  rw [if_neg l0, if_neg (by rw [ek.out]; exact fun h => h hk), if_neg l4, if_neg (by rw [EN.out]; omega), if_neg (by rw [EN.out]; omega)]
end Go.Proofs.YtdnkgmlidhepbaaGreat
namespace Go.Proofs.YtdnkgmlidhepbaaGreat
open Go Go.RowKit
theorem reg_nil {k : Int} (h : k ∉ kinds) : regV k = .nilFunc := by
  simp only [kinds, List.mem_cons, List.not_mem_nil, or_false, not_or] at h
  obtain ⟨h1, h2, h4, h5, h8, h11, h15, h20, h24⟩ := h
  unfold regV
  rw [if_neg h1, if_neg h2, if_neg h4, if_neg h5, if_neg h8, if_neg h11, if_neg h15, if_neg h20, if_neg h24]
theorem reg_eq (k : Int) (W : World) : (binOp .eql 75 (regV k) .nilFunc).run Tryz.prog W = .ok (.bool (!decide (k ∈ kinds))) W := by
  by_cases h : k ∈ kinds
  · have : k = 1 ∨ k = 2 ∨ k = 4 ∨ k = 5 ∨ k = 8 ∨ k = 11 ∨ k = 15 ∨ k = 20 ∨ k = 24 := by simpa [kinds] using h
    rcases this with e | e | e | e | e | e | e | e | e <;> subst e
    · show (binOp .eql 75 (regV 1) .nilFunc).run Tryz.prog W = .ok (.bool false) W
      kernel_rfl
    · show (binOp .eql 75 (regV 2) .nilFunc).run Tryz.prog W = .ok (.bool false) W
      kernel_rfl
    · show (binOp .eql 75 (regV 4) .nilFunc).run Tryz.prog W = .ok (.bool false) W
      kernel_rfl
    · show (binOp .eql 75 (regV 5) .nilFunc).run Tryz.prog W = .ok (.bool false) W
      kernel_rfl
    · show (binOp .eql 75 (regV 8) .nilFunc).run Tryz.prog W = .ok (.bool false) W
      kernel_rfl
    · show (binOp .eql 75 (regV 11) .nilFunc).run Tryz.prog W = .ok (.bool false) W
      kernel_rfl
    · show (binOp .eql 75 (regV 15) .nilFunc).run Tryz.prog W = .ok (.bool false) W
      kernel_rfl
    · show (binOp .eql 75 (regV 20) .nilFunc).run Tryz.prog W = .ok (.bool false) W
      kernel_rfl
    · show (binOp .eql 75 (regV 24) .nilFunc).run Tryz.prog W = .ok (.bool false) W
      kernel_rfl
  · rw [reg_nil h, show (!decide (k ∈ kinds)) = true by simp [h]]
    kernel_rfl
theorem reg_guard (k : Int) (W : World) : (eqGuard BinOp.eql 75 (Operand.tmp 16) (Operand.const Value.nilFunc) (regV k) Value.nilFunc).run Tryz.prog W = .ok () W := by
  by_cases h : k ∈ kinds
  · have : k = 1 ∨ k = 2 ∨ k = 4 ∨ k = 5 ∨ k = 8 ∨ k = 11 ∨ k = 15 ∨ k = 20 ∨ k = 24 := by simpa [kinds] using h
    rcases this with e | e | e | e | e | e | e | e | e <;> subst e
    · show (eqGuard BinOp.eql 75 (Operand.tmp 16) (Operand.const Value.nilFunc) (regV 1) Value.nilFunc).run Tryz.prog W = .ok () W
      kernel_rfl
    · show (eqGuard BinOp.eql 75 (Operand.tmp 16) (Operand.const Value.nilFunc) (regV 2) Value.nilFunc).run Tryz.prog W = .ok () W
      kernel_rfl
    · show (eqGuard BinOp.eql 75 (Operand.tmp 16) (Operand.const Value.nilFunc) (regV 4) Value.nilFunc).run Tryz.prog W = .ok () W
      kernel_rfl
    · show (eqGuard BinOp.eql 75 (Operand.tmp 16) (Operand.const Value.nilFunc) (regV 5) Value.nilFunc).run Tryz.prog W = .ok () W
      kernel_rfl
    · show (eqGuard BinOp.eql 75 (Operand.tmp 16) (Operand.const Value.nilFunc) (regV 8) Value.nilFunc).run Tryz.prog W = .ok () W
      kernel_rfl
    · show (eqGuard BinOp.eql 75 (Operand.tmp 16) (Operand.const Value.nilFunc) (regV 11) Value.nilFunc).run Tryz.prog W = .ok () W
      kernel_rfl
    · show (eqGuard BinOp.eql 75 (Operand.tmp 16) (Operand.const Value.nilFunc) (regV 15) Value.nilFunc).run Tryz.prog W = .ok () W
      kernel_rfl
    · show (eqGuard BinOp.eql 75 (Operand.tmp 16) (Operand.const Value.nilFunc) (regV 20) Value.nilFunc).run Tryz.prog W = .ok () W
      kernel_rfl
    · show (eqGuard BinOp.eql 75 (Operand.tmp 16) (Operand.const Value.nilFunc) (regV 24) Value.nilFunc).run Tryz.prog W = .ok () W
      kernel_rfl
  · rw [reg_nil h]
    kernel_rfl
set_option maxRecDepth 100000 in
set_option maxHeartbeats 4000000 in
theorem bodySize_any (w : World) (mq g : Nat) (a : Option Addr) (c : Nat) (ys : List Int) (hm : w.heap[mq]? = some (.map regE 9)) (hr : Rd w g a .u8 ys) (hb : Byt ys) (hx : ys.length ≤ 1048576) :
    Calls Tryz.prog 53 #[.map (some mq), .slice a ys.length c] w fun e w' => e = .returned (.tuple #[.int .i64 (if dmP ys = 0 then beN ys 1 3 else 0), .int .i64 (dmP ys)]) ∧ Below w.heap.size w w' := by
  by_cases l0 : ys.length = 0
  · have eP : Hid (dmP ys = 1) := by show _ = _; unfold dmP; rw [if_pos l0]
    have e : (if dmP ys = 0 then beN ys 1 3 else 0) = 0 := by rw [eP.out]; rfl
    rw [e, eP.out]
    have u1 : ((ys.length : Int) == 0) = true := by simp [l0]
    have u2 : ((ys.length : Int)) = 0 := by omega
    clear l0 hr
    go_enter Tryz.func53, Tryz.ntmps53
    go_wp2
    go_ret2
    exact ⟨rfl, Below.refl _ _⟩
  have l1 : 0 < ys.length := by omega
  have HR := hide hr
  obtain ⟨off, rfl, hc0⟩ := hr l1
  have x0 : w.cell? ⟨g, off, none⟩ = some (.int .u8 (ys.getD 0 0)) := hc0 0 l1
  have b0 := hb 0
  have u1 : ((ys.length : Int) == 0) = false := beq_eq_false_iff_ne.2 (by omega)
  have u1' : ¬ (ys.length : Int) = 0 := by omega
  obtain ⟨k, ek⟩ : ∃ k, Hid (ys.getD 0 0 = k) := ⟨_, rfl⟩
  rw [ek.out] at x0 b0
  have lk := regLook w mq hm k
  obtain ⟨rv, hrv⟩ : ∃ v, Hid (regV k = v) := ⟨_, rfl⟩
  have re : ∀ W, (binOp .eql 75 rv .nilFunc).run Tryz.prog W = .ok (.bool (!decide (k ∈ kinds))) W := fun W => by rw [← hrv.out]; exact reg_eq k W
  have eg : ∀ W, (eqGuard BinOp.eql 75 (Operand.tmp 16) (Operand.const Value.nilFunc) rv Value.nilFunc).run Tryz.prog W = .ok () W := fun W => by rw [← hrv.out]; exact reg_guard k W
  rw [hrv.out] at lk
  have wk : IntKind.i64.wrap k = k := by rw [IntKind.wrap_i64]; omega
  clear hc0
  by_cases hk : k ∈ kinds
  rotate_left
  · have eP : Hid (dmP ys = 2) := by show _ = _; unfold dmP; rw [if_neg l0, if_pos (by rw [ek.out]; exact hk)]
    have e : (if dmP ys = 0 then beN ys 1 3 else 0) = 0 := by rw [eP.out]; rfl
    rw [e, eP.out]
    rw [show (!decide (k ∈ kinds)) = true by simp [hk]] at re
    clear hk
    go_enter Tryz.func53, Tryz.ntmps53
    go_wp2
    go_ret2
    exact ⟨rfl, Below.refl _ _⟩
  rw [show (!decide (k ∈ kinds)) = false by simp [hk]] at re
  by_cases l4 : ys.length < 4
  · have eP : Hid (dmP ys = 1) := by show _ = _; unfold dmP; rw [if_neg l0, if_neg (by rw [ek.out]; exact fun h => h hk), if_pos l4]
    have e : (if dmP ys = 0 then beN ys 1 3 else 0) = 0 := by rw [eP.out]; rfl
    rw [e, eP.out]
    have u2 : decide ((ys.length : Int) < 4) = true := decide_eq_true (by omega)
    have u2' : (ys.length : Int) < 4 := by omega
    clear hk l4
    go_enter Tryz.func53, Tryz.ntmps53
    go_wp2
    go_ret2
    exact ⟨rfl, Below.refl _ _⟩
  have u2 : decide ((ys.length : Int) < 4) = false := decide_eq_false (by omega)
  have u2' : ¬ (ys.length : Int) < 4 := by omega
  have n1 : Below w.heap.size w (w.alloc (.cells #[.slice (some ⟨g, off, none⟩) ys.length c, .int .i64 1] 112)) := (Below.refl _ _).alloc (Nat.le_refl _) _
  have C1 : Cur (w.alloc (.cells #[.slice (some ⟨g, off, none⟩) ys.length c, .int .i64 1] 112)) w.heap.size (.slice (some ⟨g, off, none⟩) ys.length c) ((1 : Nat) : Int) := ⟨_, RwC.new w _ _⟩
  have gl := HR.out.lt l1
  have NM := hide (numberG_any (w.alloc (.cells #[.slice (some ⟨g, off, none⟩) ys.length c, .int .i64 1] 112)) w.heap.size g (some ⟨g, off, none⟩) c ys 1 3 C1 (HR.out.up n1) hb (fun _ => by omega) (by omega) (by omega) (by omega))
  rw [nmV_small hb 1 3 (by decide)] at NM
  have n0 := beN_rng hb 1 3
  obtain ⟨n, hn⟩ := Int.eq_ofNat_of_zero_le n0.1
  have EN := hide hn
  have nn : n < 16777216 := by omega
  rw [hn] at NM
  have eP0 : Hid (dmP ys = if 8192 < n then 2 else if ys.length < 4 + n then 1 else 0) := by
    show _ = _
    unfold dmP
    rw [if_neg l0, if_neg (by rw [ek.out]; exact fun h => h hk), if_neg l4, hn]
    by_cases h8 : 8192 < n
    · rw [if_pos h8, if_pos (by omega)]
    · rw [if_neg h8, if_neg (by omega)]
      by_cases h9 : ys.length < 4 + n
      · rw [if_pos h9, if_pos (by omega)]
      · rw [if_neg h9, if_neg (by omega)]
  have s5 : IntKind.i64.wrap ((ys.length : Int) - 4) = (ys.length : Int) - 4 := by rw [IntKind.wrap_i64]; omega
  obtain ⟨R1, r1⟩ : ∃ r, Hid ((if dmP ys = 0 then beN ys 1 3 else 0) = r) := ⟨_, rfl⟩
  obtain ⟨R2, r2⟩ : ∃ r, Hid (dmP ys = r) := ⟨_, rfl⟩
  rw [r1.out, r2.out]
  have HN1 := hide n1
  clear hn n0 C1 n1 hk
  go_enter Tryz.func53, Tryz.ntmps53
  go_wp2_with fail
  generalize w.alloc (.cells #[.slice (some ⟨g, off, none⟩) ys.length c, .int .i64 1] 112) = W1 at *
  refine NM.out.mono ?_
  rintro e W2 ⟨rfl, -, O2⟩
  have N2 := hide (HN1.out.trans (O2.below (Nat.le_refl _)))
  clear NM O2 HN1
  by_cases h8 : 8192 < n
  · have u4 : decide ((8192 : Int) < (n : Int)) = true := decide_eq_true (by omega)
    have e2 : R2 = 2 := by rw [← r2.out, eP0.out, if_pos h8]
    have e1 : R1 = 0 := by rw [← r1.out, if_neg (by rw [r2.out, e2]; decide)]
    subst e1 e2
    clear h8
    go_wp2
    go_ret2
    exact ⟨rfl, N2.out⟩
  have u4 : decide ((8192 : Int) < (n : Int)) = false := decide_eq_false (by omega)
  by_cases h9 : ys.length < 4 + n
  · have u5 : decide ((ys.length : Int) - 4 < (n : Int)) = true := decide_eq_true (by omega)
    have e2 : R2 = 1 := by rw [← r2.out, eP0.out, if_neg h8, if_pos h9]
    have e1 : R1 = 0 := by rw [← r1.out, if_neg (by rw [r2.out, e2]; decide)]
    subst e1 e2
    clear h9 h8
    go_wp2
    go_ret2
    exact ⟨rfl, N2.out⟩
  have u5 : decide ((ys.length : Int) - 4 < (n : Int)) = false := decide_eq_false (by omega)
  have e2 : R2 = 0 := by rw [← r2.out, eP0.out, if_neg h8, if_neg h9]
  have e1 : R1 = (n : Int) := by rw [← r1.out, if_pos (by rw [r2.out, e2]), EN.out]
  subst e1 e2
  clear h8 h9
  go_wp2
  go_ret2
  exact ⟨rfl, N2.out⟩
end Go.Proofs.YtdnkgmlidhepbaaGreat
