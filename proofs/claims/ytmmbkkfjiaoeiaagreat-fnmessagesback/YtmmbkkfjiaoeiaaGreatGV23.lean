import Derived.Test.YtmmbkkfjiaoeiaaGreatGV22
namespace Go.Proofs.YtmmbkkfjiaoeiaaGreat
open Go Go.RowKit
set_option maxRecDepth 100000 in
set_option maxHeartbeats 8000000 in
theorem parseAnswer_any (w : World) (g : Nat) (a : Option Addr) (c : Nat) (xs : List Int) (hr : Rd w g a .u8 xs) (hb : Byt xs) (hx : xs.length ≤ 8192) :
    Calls Tryz.prog 30 #[.int .i64 2, .slice a xs.length c] w fun e w' => (∃ p, e = .returned (.agg (mgV p (rdAnswer xs))) ∧ HasM w' p (rdAnswer xs) ∧ HasZ p (rdAnswer xs) ∧ TyM w' p (rdAnswer xs) ∧ ∀ g, g < w.heap.size → NoM g p (rdAnswer xs)) ∧ Below w.heap.size w w' := by
  have P0 : PS w ((((w.alloc (.cells #[.int .i64 0, .int .i64 0, .slice none 0 0, .slice none 0 0, .string ⟨#[]⟩, .slice none 0 0, .slice none 0 0, .int .i64 0, .int .i64 0, .slice none 0 0, .bool false, .slice none 0 0, .slice none 0 0] 26)).alloc (.cells #[.slice a xs.length c, .int .i64 0] 105)).alloc (.cells #[.int .i64 0, .int .i64 0, .slice none 0 0, .slice none 0 0, .string ⟨#[]⟩, .slice none 0 0, .slice none 0 0, .int .i64 0, .int .i64 0, .slice none 0 0, .bool false, .slice none 0 0, .slice none 0 0] 26)).setCells (w.heap.size + 1 + 1) 0 [.int .i64 2, .int .i64 0, .slice none 0 0, .slice none 0 0, .string ⟨#[]⟩, .slice none 0 0, .slice none 0 0, .int .i64 0, .int .i64 0, .slice none 0 0, .bool false, .slice none 0 0, .slice none 0 0]) (.slice a xs.length c) 0 [.int .i64 2, .int .i64 0, .slice none 0 0, .slice none 0 0, .string ⟨#[]⟩, .slice none 0 0, .slice none 0 0, .int .i64 0, .int .i64 0, .slice none 0 0, .bool false, .slice none 0 0, .slice none 0 0] := PS.start w (.slice a xs.length c) 2
  have THR : (((w.alloc (.cells #[.int .i64 0, .int .i64 0, .slice none 0 0, .slice none 0 0, .string ⟨#[]⟩, .slice none 0 0, .slice none 0 0, .int .i64 0, .int .i64 0, .slice none 0 0, .bool false, .slice none 0 0, .slice none 0 0] 26)).alloc (.cells #[.slice a xs.length c, .int .i64 0] 105)).alloc (.cells #[.int .i64 0, .int .i64 0, .slice none 0 0, .slice none 0 0, .string ⟨#[]⟩, .slice none 0 0, .slice none 0 0, .int .i64 0, .int .i64 0, .slice none 0 0, .bool false, .slice none 0 0, .slice none 0 0] 26)).there (w.heap.size + 1 + 1) 0 13 := PS.room w (.slice a xs.length c)
  obtain ⟨d13, hd13, hrow13⟩ := rowM
  have HR := hide hr
  clear hr
  go_enter Tryz.func30, Tryz.ntmps30
  go_upto_region 3 with (refine wpList_store_mid rfl 26 (.tmp 6) (.tmp 12) rfl (w.heap.size + 1 + 1) 0 #[.int .i64 2, .int .i64 0, .slice none 0 0, .slice none 0 0, .string ⟨#[]⟩, .slice none 0 0, .slice none 0 0, .int .i64 0, .int .i64 0, .slice none 0 0, .bool false, .slice none 0 0, .slice none 0 0] rfl rfl THR iM (all_oneCell_toArray fun v hv => by (simp only [List.mem_cons, List.not_mem_nil, or_false] at hv; rcases hv with rfl | rfl | rfl | rfl | rfl | rfl | rfl | rfl | rfl | rfl | rfl | rfl | rfl; all_goals rfl)) ?_)
  have PH := hide P0
  clear P0 THR
  generalize (((w.alloc (.cells #[.int .i64 0, .int .i64 0, .slice none 0 0, .slice none 0 0, .string ⟨#[]⟩, .slice none 0 0, .slice none 0 0, .int .i64 0, .int .i64 0, .slice none 0 0, .bool false, .slice none 0 0, .slice none 0 0] 26)).alloc (.cells #[.slice a xs.length c, .int .i64 0] 105)).alloc (.cells #[.int .i64 0, .int .i64 0, .slice none 0 0, .slice none 0 0, .string ⟨#[]⟩, .slice none 0 0, .slice none 0 0, .int .i64 0, .int .i64 0, .slice none 0 0, .bool false, .slice none 0 0, .slice none 0 0] 26)).setCells (w.heap.size + 1 + 1) 0 [.int .i64 2, .int .i64 0, .slice none 0 0, .slice none 0 0, .string ⟨#[]⟩, .slice none 0 0, .slice none 0 0, .int .i64 0, .int .i64 0, .slice none 0 0, .bool false, .slice none 0 0, .slice none 0 0] = W0 at *
  have NM := hide (numM_any W0 (w.heap.size + 1) g a c xs (0) 1 (HR.out.up PH.out.N) hb PH.out.Q (by omega) (by omega) (by decide))
  go_wp2_with fail
  refine NM.out.mono ?_
  rintro e V0 ⟨rfl, hQ, hT⟩
  have PV := hide (PH.out.call hQ hT)
  clear NM hQ hT PH
  have PH := PV
  clear PV
  have qT : V0.cell? ⟨w.heap.size + 1 + 1, 1, none⟩ = some (.int .i64 0) := PH.out.T.cell 1
  have qF := PH.out.T.free 1
  go_upto_region 17 with fail
  have PN : Hid (PS w (V0.setCell ⟨w.heap.size + 1 + 1, 1, none⟩ (.int .i64 (beN xs 0 1))) (.slice a xs.length c) _ [.int .i64 2, .int .i64 (beN xs 0 1), .slice none 0 0, .slice none 0 0, .string ⟨#[]⟩, .slice none 0 0, .slice none 0 0, .int .i64 0, .int .i64 0, .slice none 0 0, .bool false, .slice none 0 0, .slice none 0 0]) := PH.out.set 1 _
  clear qT qF PH
  generalize V0.setCell ⟨w.heap.size + 1 + 1, 1, none⟩ (.int .i64 (beN xs 0 1)) = W1 at *
  have PH := PN
  clear PN
  have lt := PH.out.T.lt
  have NM := hide (takeM_any W1 (w.heap.size + 1) g a c xs (0 + 1) 32 (HR.out.up PH.out.N) PH.out.Q (by omega) (by omega) (by omega))
  go_wp2_with fail
  refine NM.out.mono ?_
  rintro e V2 ⟨rfl, B, hQ, hT⟩
  have PV := hide (PH.out.call hQ hT)
  obtain ⟨G2, hG⟩ : ∃ G, W1.heap.size = G := ⟨_, rfl⟩
  rw [hG] at B lt ⊢
  have CG2 : Hid (FB (w.heap.size + 1 + 1) V2 G2 (tkB xs (0 + 1) 32)) := ⟨B, lt⟩
  clear NM hQ hT PH B lt hG
  have PH := PV
  clear PV
  have qT : V2.cell? ⟨w.heap.size + 1 + 1, 2, none⟩ = some (.slice none 0 0) := PH.out.T.cell 2
  have qF := PH.out.T.free 2
  go_upto_region 18 with fail
  have PN : Hid (PS w (V2.setCell ⟨w.heap.size + 1 + 1, 2, none⟩ (.slice (some ⟨G2, 0, none⟩) 32 32)) (.slice a xs.length c) _ [.int .i64 2, .int .i64 (beN xs 0 1), .slice (some ⟨G2, 0, none⟩) 32 32, .slice none 0 0, .string ⟨#[]⟩, .slice none 0 0, .slice none 0 0, .int .i64 0, .int .i64 0, .slice none 0 0, .bool false, .slice none 0 0, .slice none 0 0]) := PH.out.set 2 _
  have CG2' := hide (CG2.out.onl (Only.setCell V2 (w.heap.size + 1 + 1) 2 (.slice (some ⟨G2, 0, none⟩) 32 32)) (Nat.le_refl _))
  clear CG2
  have CG2 := CG2'
  clear CG2'
  clear qT qF PH
  generalize V2.setCell ⟨w.heap.size + 1 + 1, 2, none⟩ (.slice (some ⟨G2, 0, none⟩) 32 32) = W3 at *
  have PH := PN
  clear PN
  have lt := PH.out.T.lt
  have NM := hide (takeM_any W3 (w.heap.size + 1) g a c xs (0 + 1 + 32) 32 (HR.out.up PH.out.N) PH.out.Q (by omega) (by omega) (by omega))
  go_wp2_with fail
  refine NM.out.mono ?_
  rintro e V4 ⟨rfl, B, hQ, hT⟩
  have PV := hide (PH.out.call hQ hT)
  have CG2' := hide (CG2.out.tch hT (by omega))
  clear CG2
  have CG2 := CG2'
  clear CG2'
  obtain ⟨G3, hG⟩ : ∃ G, W3.heap.size = G := ⟨_, rfl⟩
  rw [hG] at B lt ⊢
  have CG3 : Hid (FB (w.heap.size + 1 + 1) V4 G3 (tkB xs (0 + 1 + 32) 32)) := ⟨B, lt⟩
  clear NM hQ hT PH B lt hG
  have PH := PV
  clear PV
  have qT : V4.cell? ⟨w.heap.size + 1 + 1, 3, none⟩ = some (.slice none 0 0) := PH.out.T.cell 3
  have qF := PH.out.T.free 3
  go_upto_region 19 with fail
  have PN : Hid (PS w (V4.setCell ⟨w.heap.size + 1 + 1, 3, none⟩ (.slice (some ⟨G3, 0, none⟩) 32 32)) (.slice a xs.length c) _ [.int .i64 2, .int .i64 (beN xs 0 1), .slice (some ⟨G2, 0, none⟩) 32 32, .slice (some ⟨G3, 0, none⟩) 32 32, .string ⟨#[]⟩, .slice none 0 0, .slice none 0 0, .int .i64 0, .int .i64 0, .slice none 0 0, .bool false, .slice none 0 0, .slice none 0 0]) := PH.out.set 3 _
  have CG2' := hide (CG2.out.onl (Only.setCell V4 (w.heap.size + 1 + 1) 3 (.slice (some ⟨G3, 0, none⟩) 32 32)) (Nat.le_refl _))
  clear CG2
  have CG2 := CG2'
  clear CG2'
  have CG3' := hide (CG3.out.onl (Only.setCell V4 (w.heap.size + 1 + 1) 3 (.slice (some ⟨G3, 0, none⟩) 32 32)) (Nat.le_refl _))
  clear CG3
  have CG3 := CG3'
  clear CG3'
  clear qT qF PH
  generalize V4.setCell ⟨w.heap.size + 1 + 1, 3, none⟩ (.slice (some ⟨G3, 0, none⟩) 32 32) = W5 at *
  have PH := PN
  clear PN
  have NM := hide (numM_any W5 (w.heap.size + 1) g a c xs (0 + 1 + 32 + 32) 1 (HR.out.up PH.out.N) hb PH.out.Q (by omega) (by omega) (by decide))
  go_wp2_with fail
  refine NM.out.mono ?_
  rintro e V6 ⟨rfl, hQ, hT⟩
  have PV := hide (PH.out.call hQ hT)
  have CG2' := hide (CG2.out.tch hT (by omega))
  clear CG2
  have CG2 := CG2'
  clear CG2'
  have CG3' := hide (CG3.out.tch hT (by omega))
  clear CG3
  have CG3 := CG3'
  clear CG3'
  clear NM hQ hT PH
  have PH := PV
  clear PV
  have qT : V6.cell? ⟨w.heap.size + 1 + 1, 10, none⟩ = some (.bool false) := PH.out.T.cell 10
  have qF := PH.out.T.free 10
  go_upto_region 39 with fail
  have PN : Hid (PS w (V6.setCell ⟨w.heap.size + 1 + 1, 10, none⟩ (.bool (beN xs (0 + 1 + 32 + 32) 1 == 1))) (.slice a xs.length c) _ [.int .i64 2, .int .i64 (beN xs 0 1), .slice (some ⟨G2, 0, none⟩) 32 32, .slice (some ⟨G3, 0, none⟩) 32 32, .string ⟨#[]⟩, .slice none 0 0, .slice none 0 0, .int .i64 0, .int .i64 0, .slice none 0 0, .bool (beN xs (0 + 1 + 32 + 32) 1 == 1), .slice none 0 0, .slice none 0 0]) := PH.out.set 10 _
  have CG2' := hide (CG2.out.onl (Only.setCell V6 (w.heap.size + 1 + 1) 10 (.bool (beN xs (0 + 1 + 32 + 32) 1 == 1))) (Nat.le_refl _))
  clear CG2
  have CG2 := CG2'
  clear CG2'
  have CG3' := hide (CG3.out.onl (Only.setCell V6 (w.heap.size + 1 + 1) 10 (.bool (beN xs (0 + 1 + 32 + 32) 1 == 1))) (Nat.le_refl _))
  clear CG3
  have CG3 := CG3'
  clear CG3'
  clear qT qF PH
  generalize V6.setCell ⟨w.heap.size + 1 + 1, 10, none⟩ (.bool (beN xs (0 + 1 + 32 + 32) 1 == 1)) = W7 at *
  have PH := PN
  clear PN
  have RG := PH.out.T.rangeG
  have THR := PH.out.U.thereG
  have RR := World.rangeAt_setCells_same W7 w.heap.size 0 [.int .i64 2, .int .i64 (beN xs 0 1), .slice (some ⟨G2, 0, none⟩) 32 32, .slice (some ⟨G3, 0, none⟩) 32 32, .string ⟨#[]⟩, .slice none 0 0, .slice none 0 0, .int .i64 0, .int .i64 0, .slice none 0 0, .bool (beN xs (0 + 1 + 32 + 32) 1 == 1), .slice none 0 0, .slice none 0 0] THR
  have OQ := only_setG W7 w.heap.size [.int .i64 2, .int .i64 (beN xs 0 1), .slice (some ⟨G2, 0, none⟩) 32 32, .slice (some ⟨G3, 0, none⟩) 32 32, .string ⟨#[]⟩, .slice none 0 0, .slice none 0 0, .int .i64 0, .int .i64 0, .slice none 0 0, .bool (beN xs (0 + 1 + 32 + 32) 1 == 1), .slice none 0 0, .slice none 0 0] 0
  have N8 : Hid (Below w.heap.size w (W7.setCells w.heap.size 0 [.int .i64 2, .int .i64 (beN xs 0 1), .slice (some ⟨G2, 0, none⟩) 32 32, .slice (some ⟨G3, 0, none⟩) 32 32, .string ⟨#[]⟩, .slice none 0 0, .slice none 0 0, .int .i64 0, .int .i64 0, .slice none 0 0, .bool (beN xs (0 + 1 + 32 + 32) 1 == 1), .slice none 0 0, .slice none 0 0])) := PH.out.N.trans (OQ.below (by omega))
  have CG2' := hide (CG2.out.onl OQ (by omega))
  clear CG2
  have CG2 := CG2'
  clear CG2'
  have CG3' := hide (CG3.out.onl OQ (by omega))
  clear CG3
  have CG3 := CG3'
  clear CG3'
  clear OQ PH
  have ON : ([.int .i64 2, .int .i64 (beN xs 0 1), .slice (some ⟨G2, 0, none⟩) 32 32, .slice (some ⟨G3, 0, none⟩) 32 32, .string ⟨#[]⟩, .slice none 0 0, .slice none 0 0, .int .i64 0, .int .i64 0, .slice none 0 0, .bool (beN xs (0 + 1 + 32 + 32) 1 == 1), .slice none 0 0, .slice none 0 0] : List Value).toArray.all (·.oneCell') = true := all_oneCell_toArray fun v hv => by
    simp only [List.mem_cons, List.not_mem_nil, or_false] at hv
    rcases hv with rfl | rfl | rfl | rfl | rfl | rfl | rfl | rfl | rfl | rfl | rfl | rfl | rfl
    all_goals rfl
  have RES : Hid ((∃ p, Ending.returned (.agg #[.int .i64 2, .int .i64 (beN xs 0 1), .slice (some ⟨G2, 0, none⟩) 32 32, .slice (some ⟨G3, 0, none⟩) 32 32, .string ⟨#[]⟩, .slice none 0 0, .slice none 0 0, .int .i64 0, .int .i64 0, .slice none 0 0, .bool (beN xs (0 + 1 + 32 + 32) 1 == 1), .slice none 0 0, .slice none 0 0]) = .returned (.agg (mgV p (rdAnswer xs))) ∧ HasM (W7.setCells w.heap.size 0 [.int .i64 2, .int .i64 (beN xs 0 1), .slice (some ⟨G2, 0, none⟩) 32 32, .slice (some ⟨G3, 0, none⟩) 32 32, .string ⟨#[]⟩, .slice none 0 0, .slice none 0 0, .int .i64 0, .int .i64 0, .slice none 0 0, .bool (beN xs (0 + 1 + 32 + 32) 1 == 1), .slice none 0 0, .slice none 0 0]) p (rdAnswer xs) ∧ HasZ p (rdAnswer xs) ∧ TyM (W7.setCells w.heap.size 0 [.int .i64 2, .int .i64 (beN xs 0 1), .slice (some ⟨G2, 0, none⟩) 32 32, .slice (some ⟨G3, 0, none⟩) 32 32, .string ⟨#[]⟩, .slice none 0 0, .slice none 0 0, .int .i64 0, .int .i64 0, .slice none 0 0, .bool (beN xs (0 + 1 + 32 + 32) 1 == 1), .slice none 0 0, .slice none 0 0]) p (rdAnswer xs) ∧ ∀ g, g < w.heap.size → NoM g p (rdAnswer xs)) ∧ Below w.heap.size w (W7.setCells w.heap.size 0 [.int .i64 2, .int .i64 (beN xs 0 1), .slice (some ⟨G2, 0, none⟩) 32 32, .slice (some ⟨G3, 0, none⟩) 32 32, .string ⟨#[]⟩, .slice none 0 0, .slice none 0 0, .int .i64 0, .int .i64 0, .slice none 0 0, .bool (beN xs (0 + 1 + 32 + 32) 1 == 1), .slice none 0 0, .slice none 0 0])) := ⟨⟨⟨some ⟨G2, 0, none⟩, 32, G2, some ⟨G3, 0, none⟩, 32, G3, none, 0, 0, none, 0, 0, none, 0, 0, none, 0, 0, none, 0, 0, []⟩, by simp only [mgV, rdAnswer, tkB_len, List.length_nil], ⟨CG2.out.1.own0.rd, CG3.out.1.own0.rd, rdT0 _ _ _, rd0 _ _ _ _, rd0 _ _ _ _, rdL0 _ _ _ _, rd0 _ _ _ _, Nat.zero_le _⟩, ⟨(fun h => by cases h), (fun h => by cases h), (fun _ => rfl), (fun _ => rfl), (fun _ => rfl), fun i hi => absurd hi (by simp [rdAnswer])⟩, ⟨fun h => absurd h (by simp [rdAnswer]), fun h => absurd h (by simp [rdAnswer])⟩, (fun g hg => ⟨(fun _ => by have h2 := CG2.out.2; show G2 ≠ _; omega), (fun _ => by have h2 := CG3.out.2; show G3 ≠ _; omega), (fun h => absurd h (by simp [rdAnswer])), (fun h => absurd h (by simp [rdAnswer])), (fun h => absurd h (by simp [rdAnswer])), (fun h => absurd h (by simp [rdAnswer])), (fun i h => absurd h (by simp [rdAnswer])), (fun h => absurd h (by simp [rdAnswer]))⟩)⟩, N8.out⟩
  clear N8
  go_wp2_with (first
    | (refine wpList_load_mid rfl 26 (.tmp 6) rfl (w.heap.size + 1 + 1) 0 rfl [.int .i64 2, .int .i64 (beN xs 0 1), .slice (some ⟨G2, 0, none⟩) 32 32, .slice (some ⟨G3, 0, none⟩) 32 32, .string ⟨#[]⟩, .slice none 0 0, .slice none 0 0, .int .i64 0, .int .i64 0, .slice none 0 0, .bool (beN xs (0 + 1 + 32 + 32) 1 == 1), .slice none 0 0, .slice none 0 0] d13 RG hd13 hrow13 iM ?_)
    | (refine wpList_store_mid rfl 26 (.tmp 4) (.tmp 124) rfl w.heap.size 0 #[.int .i64 2, .int .i64 (beN xs 0 1), .slice (some ⟨G2, 0, none⟩) 32 32, .slice (some ⟨G3, 0, none⟩) 32 32, .string ⟨#[]⟩, .slice none 0 0, .slice none 0 0, .int .i64 0, .int .i64 0, .slice none 0 0, .bool (beN xs (0 + 1 + 32 + 32) 1 == 1), .slice none 0 0, .slice none 0 0] rfl rfl THR iM ON ?_))
  exact bodyPost_ret (v := .agg #[.int .i64 2, .int .i64 (beN xs 0 1), .slice (some ⟨G2, 0, none⟩) 32 32, .slice (some ⟨G3, 0, none⟩) 32 32, .string ⟨#[]⟩, .slice none 0 0, .slice none 0 0, .int .i64 0, .int .i64 0, .slice none 0 0, .bool (beN xs (0 + 1 + 32 + 32) 1 == 1), .slice none 0 0, .slice none 0 0]) (results_cellG Tryz.results30 _ _ w.heap.size _ d13 rfl RR hd13 hrow13 iM) rfl RES.out
end Go.Proofs.YtmmbkkfjiaoeiaaGreat
namespace Go.Proofs.YtmmbkkfjiaoeiaaGreat
open Go Go.RowKit
set_option maxRecDepth 100000 in
set_option maxHeartbeats 8000000 in
theorem parseCerts_any (w : World) (g : Nat) (a : Option Addr) (c : Nat) (xs : List Int) (hr : Rd w g a .u8 xs) (hb : Byt xs) (hx : xs.length ≤ 8192) :
    Calls Tryz.prog 30 #[.int .i64 11, .slice a xs.length c] w fun e w' => (∃ p, e = .returned (.agg (mgV p (rdCerts xs))) ∧ HasM w' p (rdCerts xs) ∧ HasZ p (rdCerts xs) ∧ TyM w' p (rdCerts xs) ∧ ∀ g, g < w.heap.size → NoM g p (rdCerts xs)) ∧ Below w.heap.size w w' := by
  have P0 : PS w ((((w.alloc (.cells #[.int .i64 0, .int .i64 0, .slice none 0 0, .slice none 0 0, .string ⟨#[]⟩, .slice none 0 0, .slice none 0 0, .int .i64 0, .int .i64 0, .slice none 0 0, .bool false, .slice none 0 0, .slice none 0 0] 26)).alloc (.cells #[.slice a xs.length c, .int .i64 0] 105)).alloc (.cells #[.int .i64 0, .int .i64 0, .slice none 0 0, .slice none 0 0, .string ⟨#[]⟩, .slice none 0 0, .slice none 0 0, .int .i64 0, .int .i64 0, .slice none 0 0, .bool false, .slice none 0 0, .slice none 0 0] 26)).setCells (w.heap.size + 1 + 1) 0 [.int .i64 11, .int .i64 0, .slice none 0 0, .slice none 0 0, .string ⟨#[]⟩, .slice none 0 0, .slice none 0 0, .int .i64 0, .int .i64 0, .slice none 0 0, .bool false, .slice none 0 0, .slice none 0 0]) (.slice a xs.length c) 0 [.int .i64 11, .int .i64 0, .slice none 0 0, .slice none 0 0, .string ⟨#[]⟩, .slice none 0 0, .slice none 0 0, .int .i64 0, .int .i64 0, .slice none 0 0, .bool false, .slice none 0 0, .slice none 0 0] := PS.start w (.slice a xs.length c) 11
  have THR : (((w.alloc (.cells #[.int .i64 0, .int .i64 0, .slice none 0 0, .slice none 0 0, .string ⟨#[]⟩, .slice none 0 0, .slice none 0 0, .int .i64 0, .int .i64 0, .slice none 0 0, .bool false, .slice none 0 0, .slice none 0 0] 26)).alloc (.cells #[.slice a xs.length c, .int .i64 0] 105)).alloc (.cells #[.int .i64 0, .int .i64 0, .slice none 0 0, .slice none 0 0, .string ⟨#[]⟩, .slice none 0 0, .slice none 0 0, .int .i64 0, .int .i64 0, .slice none 0 0, .bool false, .slice none 0 0, .slice none 0 0] 26)).there (w.heap.size + 1 + 1) 0 13 := PS.room w (.slice a xs.length c)
  obtain ⟨d13, hd13, hrow13⟩ := rowM
  have HR := hide hr
  clear hr
  go_enter Tryz.func30, Tryz.ntmps30
  go_upto_region 3 with (refine wpList_store_mid rfl 26 (.tmp 6) (.tmp 12) rfl (w.heap.size + 1 + 1) 0 #[.int .i64 11, .int .i64 0, .slice none 0 0, .slice none 0 0, .string ⟨#[]⟩, .slice none 0 0, .slice none 0 0, .int .i64 0, .int .i64 0, .slice none 0 0, .bool false, .slice none 0 0, .slice none 0 0] rfl rfl THR iM (all_oneCell_toArray fun v hv => by (simp only [List.mem_cons, List.not_mem_nil, or_false] at hv; rcases hv with rfl | rfl | rfl | rfl | rfl | rfl | rfl | rfl | rfl | rfl | rfl | rfl | rfl; all_goals rfl)) ?_)
  have PH := hide P0
  clear P0 THR
  generalize (((w.alloc (.cells #[.int .i64 0, .int .i64 0, .slice none 0 0, .slice none 0 0, .string ⟨#[]⟩, .slice none 0 0, .slice none 0 0, .int .i64 0, .int .i64 0, .slice none 0 0, .bool false, .slice none 0 0, .slice none 0 0] 26)).alloc (.cells #[.slice a xs.length c, .int .i64 0] 105)).alloc (.cells #[.int .i64 0, .int .i64 0, .slice none 0 0, .slice none 0 0, .string ⟨#[]⟩, .slice none 0 0, .slice none 0 0, .int .i64 0, .int .i64 0, .slice none 0 0, .bool false, .slice none 0 0, .slice none 0 0] 26)).setCells (w.heap.size + 1 + 1) 0 [.int .i64 11, .int .i64 0, .slice none 0 0, .slice none 0 0, .string ⟨#[]⟩, .slice none 0 0, .slice none 0 0, .int .i64 0, .int .i64 0, .slice none 0 0, .bool false, .slice none 0 0, .slice none 0 0] = W0 at *
  obtain ⟨n, hn⟩ := Int.eq_ofNat_of_zero_le (hb 0).1
  have en : Hid ((xs.getD 0 0).toNat = n) := by show _ = _; omega
  have nb := bx1 hb 0
  rw [en.out] at nb
  have e3 : beN xs 0 1 = (n : Int) := by show beN xs 0 0 * 256 + xs.getD (0 + 0) 0 = _; rw [Nat.add_zero, hn]; show 0 * 256 + _ = _; omega
  clear hn
  have NM := hide (numM_any W0 (w.heap.size + 1) g a c xs (0) 1 (HR.out.up PH.out.N) hb PH.out.Q (by omega) (by omega) (by decide))
  rw [e3] at NM
  clear e3
  go_wp2_with fail
  refine NM.out.mono ?_
  rintro e V0 ⟨rfl, hQ, hT⟩
  have PV := hide (PH.out.call hQ hT)
  clear NM hQ hT PH
  have PH := PV
  clear PV
  have R0 := hide (BRow.nil V0 (w.heap.size + 1 + 1 + 1))
  go_upto_region 30 with fail
  go_loopw [7] (fun j wr => ∃ (k : Nat) (v : Value) (bs : List Plc), k ≤ n ∧ j = .int .i64 ((n - k : Nat) : Int) ∧ PS w wr (.slice a xs.length c) (ppL xs 1 k) [.int .i64 11, .int .i64 0, .slice none 0 0, .slice none 0 0, .string ⟨#[]⟩, .slice none 0 0, .slice none 0 0, .int .i64 0, .int .i64 0, .slice none 0 0, .bool false, v, .slice none 0 0] ∧ BRow wr (w.heap.size + 1 + 1 + 1) v (clT xs 1 k) bs) (fun j _ => (intOf j).toNat)
  case atStart => exact ⟨0, _, [], Nat.zero_le _, rfl, PH.out, R0.out⟩
  case round =>
    obtain ⟨k, v, bs, hk, rfl, hP, hR⟩ := hrel
    clear PH R0
    by_cases hlt : k < n
    · have t0 : decide ((0 : Int) < ((n - k : Nat) : Int)) = true := decide_eq_true (by omega)
      have t1 : 0 < n - k := by omega
      have t2 : IntKind.i64.wrap (((n - k : Nat) : Int) - 1) = ((n - (k + 1) : Nat) : Int) := by rw [IntKind.wrap_i64]; omega
      obtain ⟨m, hm⟩ := Int.eq_ofNat_of_zero_le (be_byte hb (ppL xs 1 k) 2 (by decide)).1
      have em : (beN xs (ppL xs 1 k) 2).toNat = m := by omega
      have mb := be2 hb (ppL xs 1 k)
      rw [em] at mb
      obtain ⟨x, hx'⟩ : ∃ x, Hid (tkB xs (ppL xs 1 k + 2) m = x) := ⟨_, rfl⟩
      have xl : x.length = m := by rw [← hx'.out, tkB_len]
      have PB := ppL_bd hb 1 k
      have tl := hP.T.lt
      have N1 : Hid (Calls Tryz.prog 50 #[.pointer (some ⟨w.heap.size + 1, 0, none⟩), .int .i64 2] wr.drew fun e w2 => e = .returned (.int .i64 (x.length : Int)) ∧ w2.cell? ⟨w.heap.size + 1 + 1, 11, none⟩ = some v ∧ Hid (Calls Tryz.prog 51 #[.pointer (some ⟨w.heap.size + 1, 0, none⟩), .int .i64 (x.length : Int)] w2 fun e w3 => ∃ G, e = .returned (.slice (some ⟨G, 0, none⟩) x.length x.length) ∧ w3.cell? ⟨w.heap.size + 1 + 1, 11, none⟩ = some v ∧ (w3.alloc (.cells #[.slice (some ⟨G, 0, none⟩) x.length x.length] 52)).cell? ⟨w.heap.size + 1 + 1, 11, none⟩ = some v ∧ ∃ v' w', (Builtin.append_ #[24, 24] 24 #[v, .slice (some ⟨w3.heap.size, 0, none⟩) 1 1]).run Tryz.prog (w3.alloc (.cells #[.slice (some ⟨G, 0, none⟩) x.length x.length] 52)) = .ok v' w' ∧ ((∃ a3 n3 c3, v' = .slice a3 n3 c3) ∧ w'.cell? ⟨w.heap.size + 1 + 1, 11, none⟩ = some v ∧ w'.frozen? ⟨w.heap.size + 1 + 1, 11, none⟩ = false ∧ ∃ bs', Hid (PS w (w'.setCell ⟨w.heap.size + 1 + 1, 11, none⟩ v') (.slice a xs.length c) (ppL xs 1 (k + 1)) [.int .i64 11, .int .i64 0, .slice none 0 0, .slice none 0 0, .string ⟨#[]⟩, .slice none 0 0, .slice none 0 0, .int .i64 0, .int .i64 0, .slice none 0 0, .bool false, v', .slice none 0 0] ∧ BRow (w'.setCell ⟨w.heap.size + 1 + 1, 11, none⟩ v') (w.heap.size + 1 + 1 + 1) v' (clT xs 1 (k + 1)) bs')))) := by
        have h0 : PS w wr.drew (.slice a xs.length c) (ppL xs 1 k) [.int .i64 11, .int .i64 0, .slice none 0 0, .slice none 0 0, .string ⟨#[]⟩, .slice none 0 0, .slice none 0 0, .int .i64 0, .int .i64 0, .slice none 0 0, .bool false, v, .slice none 0 0] := ⟨hP.U, hP.Q, hP.T, hP.N.drew⟩
        refine (numM_any wr.drew (w.heap.size + 1) g a c xs (ppL xs 1 k) 2 (HR.out.up h0.N) hb h0.Q (by omega) (by omega) (by decide)).mono ?_
        rintro e w2 ⟨rfl, Q2, T2⟩
        have h2 := h0.call Q2 T2
        have R2 : BRow w2 (w.heap.size + 1 + 1 + 1) v (clT xs 1 k) bs := hR.of fun j hj hB => T2.block j hj (by simp; omega)
        have s2 : wr.heap.size ≤ w2.heap.size := T2.size
        refine ⟨by rw [hm, xl], h2.T.cell 11, ?_⟩
        show Calls _ _ _ _ _
        rw [xl]
        refine (takeM_any w2 (w.heap.size + 1) g a c xs (ppL xs 1 k + 2) m (HR.out.up h2.N) h2.Q (by omega) (by omega) (by omega)).mono ?_
        rintro e w3 ⟨rfl, B3, Q3, T3⟩
        rw [hx'.out] at B3
        have h3 := h2.call Q3 T3
        have R3 : BRow w3 (w.heap.size + 1 + 1 + 1) v (clT xs 1 k) bs := R2.of fun j hj hB => T3.block j hj (by simp; omega)
        have tl3 := h3.T.lt
        obtain ⟨v', w', ap, R4, kp4, N4, -⟩ := R3.app x ⟨some ⟨w2.heap.size, 0, none⟩, x.length, w2.heap.size⟩ (by omega) ⟨B3.own0, (fun h => by cases h), Nat.le_refl _⟩ wr.heap.size (by omega) (fun i hi h0 => hR.lt hi h0) hR.lim s2 (by rw [clT_len]; omega)
        have U4 : RwC w' w.heap.size zM 26 := (kp4 _ h3.U.lt (fun e => by have := (R3.o.lt _ e).1; omega)).trans h3.U
        have Q4 : RwC w' (w.heap.size + 1) [.slice a xs.length c, .int .i64 ((ppL xs 1 k + 2 + m : Nat) : Int)] 105 := (kp4 _ h3.Q.lt (fun e => by have := (R3.o.lt _ e).1; omega)).trans h3.Q
        have T4 : RwC w' (w.heap.size + 1 + 1) [.int .i64 11, .int .i64 0, .slice none 0 0, .slice none 0 0, .string ⟨#[]⟩, .slice none 0 0, .slice none 0 0, .int .i64 0, .int .i64 0, .slice none 0 0, .bool false, v, .slice none 0 0] 26 := (kp4 _ h3.T.lt (fun e => by have := (R3.o.lt _ e).1; omega)).trans h3.T
        have h4 : PS w w' (.slice a xs.length c) (ppL xs 1 k + 2 + m) [.int .i64 11, .int .i64 0, .slice none 0 0, .slice none 0 0, .string ⟨#[]⟩, .slice none 0 0, .slice none 0 0, .int .i64 0, .int .i64 0, .slice none 0 0, .bool false, v, .slice none 0 0] := ⟨U4, Q4, T4, h3.N.trans (N4.mono (by omega))⟩
        refine ⟨w2.heap.size, rfl, h3.T.cell 11, (h3.T.up ((Below.refl _ _).alloc (Nat.le_refl _) _)).cell 11, v', w', by rw [xl] at ap; exact ap, (by obtain ⟨a3, c3, e3, -⟩ := R4.slice; exact ⟨a3, _, c3, e3⟩), T4.cell 11, T4.free 11, bs ++ [⟨some ⟨w2.heap.size, 0, none⟩, x.length, w2.heap.size⟩], ?_, ?_⟩
        · have e2 : ppL xs 1 (k + 1) = ppL xs 1 k + 2 + m := by show ppL xs 1 k + 2 + (beN xs (ppL xs 1 k) 2).toNat = _; rw [em]
          rw [e2]
          exact h4.set 11 v'
        · rw [clT_step, em, hx'.out]
          exact R4.onl (Only.setCell w' (w.heap.size + 1 + 1) 11 v') (by omega)
      have c11 := hP.T.cell 11
      have c11 : wr.cell? ⟨w.heap.size + 1 + 1, 11, none⟩ = some v := c11
      clear hP hR xl mb em hm PB tl hx'
      go_wp2
      go_region_law (first
        | (go_simp; go_at_call 50; refine N1.out.mono ?_; rintro e w2 ⟨rfl, m2, TK⟩)
        | (go_simp; go_at_call 51; refine TK.out.mono ?_; rintro e w3 ⟨G, rfl, m3, m4, AP⟩)
        | (refine step_append_exM rfl (.tmp 100) (.tmp 106) 24 24 rfl v (.slice (some ⟨w3.heap.size, 0, none⟩) 1 1) rfl rfl _ AP ?_; rintro v3 w4 ⟨⟨a3, n3, c3, rfl⟩, m5, f5, bs', FF⟩)
        | fail)
      all_goals
        go_wp2
        go_roundw
        case rel => exact ⟨k + 1, _, bs', by omega, by first | rfl | (congr 1; omega) | go_num, FF.out.1, FF.out.2⟩
        case measure => simp [intOf]; omega
    · obtain rfl : k = n := by omega
      have t0 : k - k = 0 := by omega
      obtain ⟨va, vc, hv, -⟩ := hR.slice
      rw [clT_len] at hv
      subst hv
      have PH := hide hP
      have CL := hide hR
      clear hP hR hlt
      go_upto_region 39 with fail
      have RG := PH.out.T.rangeG
      have THR := PH.out.U.thereG
      have RR := World.rangeAt_setCells_same wr w.heap.size 0 [.int .i64 11, .int .i64 0, .slice none 0 0, .slice none 0 0, .string ⟨#[]⟩, .slice none 0 0, .slice none 0 0, .int .i64 0, .int .i64 0, .slice none 0 0, .bool false, .slice va k vc, .slice none 0 0] THR
      have OQ := only_setG wr w.heap.size [.int .i64 11, .int .i64 0, .slice none 0 0, .slice none 0 0, .string ⟨#[]⟩, .slice none 0 0, .slice none 0 0, .int .i64 0, .int .i64 0, .slice none 0 0, .bool false, .slice va k vc, .slice none 0 0] 0
      have N8 : Hid (Below w.heap.size w (wr.setCells w.heap.size 0 [.int .i64 11, .int .i64 0, .slice none 0 0, .slice none 0 0, .string ⟨#[]⟩, .slice none 0 0, .slice none 0 0, .int .i64 0, .int .i64 0, .slice none 0 0, .bool false, .slice va k vc, .slice none 0 0])) := PH.out.N.trans (OQ.below (by omega))
      have CL' := hide (CL.out.onl OQ (by omega))
      clear CL
      have CL := CL'
      clear CL'
      clear OQ PH
      have ON : ([.int .i64 11, .int .i64 0, .slice none 0 0, .slice none 0 0, .string ⟨#[]⟩, .slice none 0 0, .slice none 0 0, .int .i64 0, .int .i64 0, .slice none 0 0, .bool false, .slice va k vc, .slice none 0 0] : List Value).toArray.all (·.oneCell') = true := all_oneCell_toArray fun v hv => by
        simp only [List.mem_cons, List.not_mem_nil, or_false] at hv
        rcases hv with rfl | rfl | rfl | rfl | rfl | rfl | rfl | rfl | rfl | rfl | rfl | rfl | rfl
        all_goals rfl
      obtain ⟨-, -, gr, hrd, hty⟩ := BRow.rdL CL.out
      have RES : Hid ((∃ p, Ending.returned (.agg #[.int .i64 11, .int .i64 0, .slice none 0 0, .slice none 0 0, .string ⟨#[]⟩, .slice none 0 0, .slice none 0 0, .int .i64 0, .int .i64 0, .slice none 0 0, .bool false, .slice va k vc, .slice none 0 0]) = .returned (.agg (mgV p (rdCerts xs))) ∧ HasM (wr.setCells w.heap.size 0 [.int .i64 11, .int .i64 0, .slice none 0 0, .slice none 0 0, .string ⟨#[]⟩, .slice none 0 0, .slice none 0 0, .int .i64 0, .int .i64 0, .slice none 0 0, .bool false, .slice va k vc, .slice none 0 0]) p (rdCerts xs) ∧ HasZ p (rdCerts xs) ∧ TyM (wr.setCells w.heap.size 0 [.int .i64 11, .int .i64 0, .slice none 0 0, .slice none 0 0, .string ⟨#[]⟩, .slice none 0 0, .slice none 0 0, .int .i64 0, .int .i64 0, .slice none 0 0, .bool false, .slice va k vc, .slice none 0 0]) p (rdCerts xs) ∧ ∀ g, g < w.heap.size → NoM g p (rdCerts xs)) ∧ Below w.heap.size w (wr.setCells w.heap.size 0 [.int .i64 11, .int .i64 0, .slice none 0 0, .slice none 0 0, .string ⟨#[]⟩, .slice none 0 0, .slice none 0 0, .int .i64 0, .int .i64 0, .slice none 0 0, .bool false, .slice va k vc, .slice none 0 0])) := ⟨⟨⟨none, 0, 0, none, 0, 0, none, 0, 0, none, 0, 0, none, 0, 0, va, vc, gr, none, 0, 0, plbs bs⟩, (by simp only [mgV, rdCerts, clT_len, List.length_nil, en.out]), ⟨rd0 _ _ _ _, rd0 _ _ _ _, rdT0 _ _ _, rd0 _ _ _ _, rd0 _ _ _ _, (by show RdL _ _ _ (clT xs 1 (xs.getD 0 0).toNat) _; rw [en.out]; exact hrd), rd0 _ _ _ _, Nat.zero_le _⟩, certsZ CL.out en.out, ⟨fun h => absurd h (by simp [rdCerts]), fun h => (hty (by rw [clT_len]; have h : 0 < (clT xs 1 (xs.getD 0 0).toNat).length := h; rw [clT_len, en.out] at h; exact h)).1⟩, (fun g hg => ⟨(fun h => absurd h (by simp [rdCerts])), (fun h => absurd h (by simp [rdCerts])), (fun h => absurd h (by simp [rdCerts])), (fun h => absurd h (by simp [rdCerts])), (fun h => absurd h (by simp [rdCerts])), (fun h => by have h : 0 < (clT xs 1 (xs.getD 0 0).toNat).length := h; rw [clT_len, en.out] at h; have h2 := (hty (by rw [clT_len]; exact h)).2; show gr ≠ _; omega), (fun i hi h0 => by have hi : i < (clT xs 1 (xs.getD 0 0).toNat).length := hi; have h0 : 0 < ((clT xs 1 (xs.getD 0 0).toNat).getD i []).length := h0; rw [en.out] at hi h0; have h2 := (CL.out.h i hi h0).1; show ((plbs bs).getD i plb0).q ≠ _; rw [plbs_get (by rw [CL.out.l]; exact hi)]; show (bs.getD i plc0).q ≠ _; omega), (fun h => absurd h (by simp [rdCerts]))⟩)⟩, N8.out⟩
      clear N8
      clear hrd hty
      go_wp2_with (first
        | (refine wpList_load_mid rfl 26 (.tmp 6) rfl (w.heap.size + 1 + 1) 0 rfl [.int .i64 11, .int .i64 0, .slice none 0 0, .slice none 0 0, .string ⟨#[]⟩, .slice none 0 0, .slice none 0 0, .int .i64 0, .int .i64 0, .slice none 0 0, .bool false, .slice va k vc, .slice none 0 0] d13 RG hd13 hrow13 iM ?_)
        | (refine wpList_store_mid rfl 26 (.tmp 4) (.tmp 124) rfl w.heap.size 0 #[.int .i64 11, .int .i64 0, .slice none 0 0, .slice none 0 0, .string ⟨#[]⟩, .slice none 0 0, .slice none 0 0, .int .i64 0, .int .i64 0, .slice none 0 0, .bool false, .slice va k vc, .slice none 0 0] rfl rfl THR iM ON ?_))
      exact bodyPost_ret (v := .agg #[.int .i64 11, .int .i64 0, .slice none 0 0, .slice none 0 0, .string ⟨#[]⟩, .slice none 0 0, .slice none 0 0, .int .i64 0, .int .i64 0, .slice none 0 0, .bool false, .slice va k vc, .slice none 0 0]) (results_cellG Tryz.results30 _ _ w.heap.size _ d13 rfl RR hd13 hrow13 iM) rfl RES.out
end Go.Proofs.YtmmbkkfjiaoeiaaGreat
namespace Go.Proofs.YtmmbkkfjiaoeiaaGreat
open Go Go.RowKit
set_option maxRecDepth 100000 in
set_option maxHeartbeats 8000000 in
theorem parseEnd_any (w : World) (g : Nat) (a : Option Addr) (c : Nat) (xs : List Int) (hr : Rd w g a .u8 xs) (_hb : Byt xs) (_hx : xs.length ≤ 8192) :
    Calls Tryz.prog 30 #[.int .i64 5, .slice a xs.length c] w fun e w' => (∃ p, e = .returned (.agg (mgV p (rdEnd xs))) ∧ HasM w' p (rdEnd xs) ∧ HasZ p (rdEnd xs) ∧ TyM w' p (rdEnd xs) ∧ ∀ g, g < w.heap.size → NoM g p (rdEnd xs)) ∧ Below w.heap.size w w' := by
  have P0 : PS w ((((w.alloc (.cells #[.int .i64 0, .int .i64 0, .slice none 0 0, .slice none 0 0, .string ⟨#[]⟩, .slice none 0 0, .slice none 0 0, .int .i64 0, .int .i64 0, .slice none 0 0, .bool false, .slice none 0 0, .slice none 0 0] 26)).alloc (.cells #[.slice a xs.length c, .int .i64 0] 105)).alloc (.cells #[.int .i64 0, .int .i64 0, .slice none 0 0, .slice none 0 0, .string ⟨#[]⟩, .slice none 0 0, .slice none 0 0, .int .i64 0, .int .i64 0, .slice none 0 0, .bool false, .slice none 0 0, .slice none 0 0] 26)).setCells (w.heap.size + 1 + 1) 0 [.int .i64 5, .int .i64 0, .slice none 0 0, .slice none 0 0, .string ⟨#[]⟩, .slice none 0 0, .slice none 0 0, .int .i64 0, .int .i64 0, .slice none 0 0, .bool false, .slice none 0 0, .slice none 0 0]) (.slice a xs.length c) 0 [.int .i64 5, .int .i64 0, .slice none 0 0, .slice none 0 0, .string ⟨#[]⟩, .slice none 0 0, .slice none 0 0, .int .i64 0, .int .i64 0, .slice none 0 0, .bool false, .slice none 0 0, .slice none 0 0] := PS.start w (.slice a xs.length c) 5
  have THR : (((w.alloc (.cells #[.int .i64 0, .int .i64 0, .slice none 0 0, .slice none 0 0, .string ⟨#[]⟩, .slice none 0 0, .slice none 0 0, .int .i64 0, .int .i64 0, .slice none 0 0, .bool false, .slice none 0 0, .slice none 0 0] 26)).alloc (.cells #[.slice a xs.length c, .int .i64 0] 105)).alloc (.cells #[.int .i64 0, .int .i64 0, .slice none 0 0, .slice none 0 0, .string ⟨#[]⟩, .slice none 0 0, .slice none 0 0, .int .i64 0, .int .i64 0, .slice none 0 0, .bool false, .slice none 0 0, .slice none 0 0] 26)).there (w.heap.size + 1 + 1) 0 13 := PS.room w (.slice a xs.length c)
  obtain ⟨d13, hd13, hrow13⟩ := rowM
  have HR := hide hr
  clear hr
  go_enter Tryz.func30, Tryz.ntmps30
  go_upto_region 3 with (refine wpList_store_mid rfl 26 (.tmp 6) (.tmp 12) rfl (w.heap.size + 1 + 1) 0 #[.int .i64 5, .int .i64 0, .slice none 0 0, .slice none 0 0, .string ⟨#[]⟩, .slice none 0 0, .slice none 0 0, .int .i64 0, .int .i64 0, .slice none 0 0, .bool false, .slice none 0 0, .slice none 0 0] rfl rfl THR iM (all_oneCell_toArray fun v hv => by (simp only [List.mem_cons, List.not_mem_nil, or_false] at hv; rcases hv with rfl | rfl | rfl | rfl | rfl | rfl | rfl | rfl | rfl | rfl | rfl | rfl | rfl; all_goals rfl)) ?_)
  have PH := hide P0
  clear P0 THR
  generalize (((w.alloc (.cells #[.int .i64 0, .int .i64 0, .slice none 0 0, .slice none 0 0, .string ⟨#[]⟩, .slice none 0 0, .slice none 0 0, .int .i64 0, .int .i64 0, .slice none 0 0, .bool false, .slice none 0 0, .slice none 0 0] 26)).alloc (.cells #[.slice a xs.length c, .int .i64 0] 105)).alloc (.cells #[.int .i64 0, .int .i64 0, .slice none 0 0, .slice none 0 0, .string ⟨#[]⟩, .slice none 0 0, .slice none 0 0, .int .i64 0, .int .i64 0, .slice none 0 0, .bool false, .slice none 0 0, .slice none 0 0] 26)).setCells (w.heap.size + 1 + 1) 0 [.int .i64 5, .int .i64 0, .slice none 0 0, .slice none 0 0, .string ⟨#[]⟩, .slice none 0 0, .slice none 0 0, .int .i64 0, .int .i64 0, .slice none 0 0, .bool false, .slice none 0 0, .slice none 0 0] = W0 at *
  have RG := PH.out.T.rangeG
  have THR := PH.out.U.thereG
  have RR := World.rangeAt_setCells_same W0 w.heap.size 0 [.int .i64 5, .int .i64 0, .slice none 0 0, .slice none 0 0, .string ⟨#[]⟩, .slice none 0 0, .slice none 0 0, .int .i64 0, .int .i64 0, .slice none 0 0, .bool false, .slice none 0 0, .slice none 0 0] THR
  have OQ := only_setG W0 w.heap.size [.int .i64 5, .int .i64 0, .slice none 0 0, .slice none 0 0, .string ⟨#[]⟩, .slice none 0 0, .slice none 0 0, .int .i64 0, .int .i64 0, .slice none 0 0, .bool false, .slice none 0 0, .slice none 0 0] 0
  have N8 : Hid (Below w.heap.size w (W0.setCells w.heap.size 0 [.int .i64 5, .int .i64 0, .slice none 0 0, .slice none 0 0, .string ⟨#[]⟩, .slice none 0 0, .slice none 0 0, .int .i64 0, .int .i64 0, .slice none 0 0, .bool false, .slice none 0 0, .slice none 0 0])) := PH.out.N.trans (OQ.below (by omega))
  clear OQ PH
  have ON : ([.int .i64 5, .int .i64 0, .slice none 0 0, .slice none 0 0, .string ⟨#[]⟩, .slice none 0 0, .slice none 0 0, .int .i64 0, .int .i64 0, .slice none 0 0, .bool false, .slice none 0 0, .slice none 0 0] : List Value).toArray.all (·.oneCell') = true := all_oneCell_toArray fun v hv => by
    simp only [List.mem_cons, List.not_mem_nil, or_false] at hv
    rcases hv with rfl | rfl | rfl | rfl | rfl | rfl | rfl | rfl | rfl | rfl | rfl | rfl | rfl
    all_goals rfl
  have RES : Hid ((∃ p, Ending.returned (.agg #[.int .i64 5, .int .i64 0, .slice none 0 0, .slice none 0 0, .string ⟨#[]⟩, .slice none 0 0, .slice none 0 0, .int .i64 0, .int .i64 0, .slice none 0 0, .bool false, .slice none 0 0, .slice none 0 0]) = .returned (.agg (mgV p (rdEnd xs))) ∧ HasM (W0.setCells w.heap.size 0 [.int .i64 5, .int .i64 0, .slice none 0 0, .slice none 0 0, .string ⟨#[]⟩, .slice none 0 0, .slice none 0 0, .int .i64 0, .int .i64 0, .slice none 0 0, .bool false, .slice none 0 0, .slice none 0 0]) p (rdEnd xs) ∧ HasZ p (rdEnd xs) ∧ TyM (W0.setCells w.heap.size 0 [.int .i64 5, .int .i64 0, .slice none 0 0, .slice none 0 0, .string ⟨#[]⟩, .slice none 0 0, .slice none 0 0, .int .i64 0, .int .i64 0, .slice none 0 0, .bool false, .slice none 0 0, .slice none 0 0]) p (rdEnd xs) ∧ ∀ g, g < w.heap.size → NoM g p (rdEnd xs)) ∧ Below w.heap.size w (W0.setCells w.heap.size 0 [.int .i64 5, .int .i64 0, .slice none 0 0, .slice none 0 0, .string ⟨#[]⟩, .slice none 0 0, .slice none 0 0, .int .i64 0, .int .i64 0, .slice none 0 0, .bool false, .slice none 0 0, .slice none 0 0])) := ⟨⟨⟨none, 0, 0, none, 0, 0, none, 0, 0, none, 0, 0, none, 0, 0, none, 0, 0, none, 0, 0, []⟩, rfl, ⟨rd0 _ _ _ _, rd0 _ _ _ _, rdT0 _ _ _, rd0 _ _ _ _, rd0 _ _ _ _, rdL0 _ _ _ _, rd0 _ _ _ _, Nat.zero_le _⟩, ⟨(fun _ => rfl), (fun _ => rfl), (fun _ => rfl), (fun _ => rfl), (fun _ => rfl), fun i hi => absurd hi (by simp [rdEnd])⟩, ⟨fun h => absurd h (by simp [rdEnd]), fun h => absurd h (by simp [rdEnd])⟩, (fun g hg => ⟨(fun h => absurd h (by simp [rdEnd])), (fun h => absurd h (by simp [rdEnd])), (fun h => absurd h (by simp [rdEnd])), (fun h => absurd h (by simp [rdEnd])), (fun h => absurd h (by simp [rdEnd])), (fun h => absurd h (by simp [rdEnd])), (fun i h => absurd h (by simp [rdEnd])), (fun h => absurd h (by simp [rdEnd]))⟩)⟩, N8.out⟩
  clear N8
  go_wp2_with (first
    | (refine wpList_load_mid rfl 26 (.tmp 6) rfl (w.heap.size + 1 + 1) 0 rfl [.int .i64 5, .int .i64 0, .slice none 0 0, .slice none 0 0, .string ⟨#[]⟩, .slice none 0 0, .slice none 0 0, .int .i64 0, .int .i64 0, .slice none 0 0, .bool false, .slice none 0 0, .slice none 0 0] d13 RG hd13 hrow13 iM ?_)
    | (refine wpList_store_mid rfl 26 (.tmp 4) (.tmp 124) rfl w.heap.size 0 #[.int .i64 5, .int .i64 0, .slice none 0 0, .slice none 0 0, .string ⟨#[]⟩, .slice none 0 0, .slice none 0 0, .int .i64 0, .int .i64 0, .slice none 0 0, .bool false, .slice none 0 0, .slice none 0 0] rfl rfl THR iM ON ?_))
  exact bodyPost_ret (v := .agg #[.int .i64 5, .int .i64 0, .slice none 0 0, .slice none 0 0, .string ⟨#[]⟩, .slice none 0 0, .slice none 0 0, .int .i64 0, .int .i64 0, .slice none 0 0, .bool false, .slice none 0 0, .slice none 0 0]) (results_cellG Tryz.results30 _ _ w.heap.size _ d13 rfl RR hd13 hrow13 iM) rfl RES.out
end Go.Proofs.YtmmbkkfjiaoeiaaGreat
namespace Go.Proofs.YtmmbkkfjiaoeiaaGreat
open Go Go.RowKit
set_option maxRecDepth 100000 in
set_option maxHeartbeats 8000000 in
theorem parseFinished_any (w : World) (g : Nat) (a : Option Addr) (c : Nat) (xs : List Int) (hr : Rd w g a .u8 xs) (_hb : Byt xs) (hx : xs.length ≤ 8192) :
    Calls Tryz.prog 30 #[.int .i64 20, .slice a xs.length c] w fun e w' => (∃ p, e = .returned (.agg (mgV p (rdFinished xs))) ∧ HasM w' p (rdFinished xs) ∧ HasZ p (rdFinished xs) ∧ TyM w' p (rdFinished xs) ∧ ∀ g, g < w.heap.size → NoM g p (rdFinished xs)) ∧ Below w.heap.size w w' := by
  have P0 : PS w ((((w.alloc (.cells #[.int .i64 0, .int .i64 0, .slice none 0 0, .slice none 0 0, .string ⟨#[]⟩, .slice none 0 0, .slice none 0 0, .int .i64 0, .int .i64 0, .slice none 0 0, .bool false, .slice none 0 0, .slice none 0 0] 26)).alloc (.cells #[.slice a xs.length c, .int .i64 0] 105)).alloc (.cells #[.int .i64 0, .int .i64 0, .slice none 0 0, .slice none 0 0, .string ⟨#[]⟩, .slice none 0 0, .slice none 0 0, .int .i64 0, .int .i64 0, .slice none 0 0, .bool false, .slice none 0 0, .slice none 0 0] 26)).setCells (w.heap.size + 1 + 1) 0 [.int .i64 20, .int .i64 0, .slice none 0 0, .slice none 0 0, .string ⟨#[]⟩, .slice none 0 0, .slice none 0 0, .int .i64 0, .int .i64 0, .slice none 0 0, .bool false, .slice none 0 0, .slice none 0 0]) (.slice a xs.length c) 0 [.int .i64 20, .int .i64 0, .slice none 0 0, .slice none 0 0, .string ⟨#[]⟩, .slice none 0 0, .slice none 0 0, .int .i64 0, .int .i64 0, .slice none 0 0, .bool false, .slice none 0 0, .slice none 0 0] := PS.start w (.slice a xs.length c) 20
  have THR : (((w.alloc (.cells #[.int .i64 0, .int .i64 0, .slice none 0 0, .slice none 0 0, .string ⟨#[]⟩, .slice none 0 0, .slice none 0 0, .int .i64 0, .int .i64 0, .slice none 0 0, .bool false, .slice none 0 0, .slice none 0 0] 26)).alloc (.cells #[.slice a xs.length c, .int .i64 0] 105)).alloc (.cells #[.int .i64 0, .int .i64 0, .slice none 0 0, .slice none 0 0, .string ⟨#[]⟩, .slice none 0 0, .slice none 0 0, .int .i64 0, .int .i64 0, .slice none 0 0, .bool false, .slice none 0 0, .slice none 0 0] 26)).there (w.heap.size + 1 + 1) 0 13 := PS.room w (.slice a xs.length c)
  obtain ⟨d13, hd13, hrow13⟩ := rowM
  have HR := hide hr
  clear hr
  go_enter Tryz.func30, Tryz.ntmps30
  go_upto_region 3 with (refine wpList_store_mid rfl 26 (.tmp 6) (.tmp 12) rfl (w.heap.size + 1 + 1) 0 #[.int .i64 20, .int .i64 0, .slice none 0 0, .slice none 0 0, .string ⟨#[]⟩, .slice none 0 0, .slice none 0 0, .int .i64 0, .int .i64 0, .slice none 0 0, .bool false, .slice none 0 0, .slice none 0 0] rfl rfl THR iM (all_oneCell_toArray fun v hv => by (simp only [List.mem_cons, List.not_mem_nil, or_false] at hv; rcases hv with rfl | rfl | rfl | rfl | rfl | rfl | rfl | rfl | rfl | rfl | rfl | rfl | rfl; all_goals rfl)) ?_)
  have PH := hide P0
  clear P0 THR
  generalize (((w.alloc (.cells #[.int .i64 0, .int .i64 0, .slice none 0 0, .slice none 0 0, .string ⟨#[]⟩, .slice none 0 0, .slice none 0 0, .int .i64 0, .int .i64 0, .slice none 0 0, .bool false, .slice none 0 0, .slice none 0 0] 26)).alloc (.cells #[.slice a xs.length c, .int .i64 0] 105)).alloc (.cells #[.int .i64 0, .int .i64 0, .slice none 0 0, .slice none 0 0, .string ⟨#[]⟩, .slice none 0 0, .slice none 0 0, .int .i64 0, .int .i64 0, .slice none 0 0, .bool false, .slice none 0 0, .slice none 0 0] 26)).setCells (w.heap.size + 1 + 1) 0 [.int .i64 20, .int .i64 0, .slice none 0 0, .slice none 0 0, .string ⟨#[]⟩, .slice none 0 0, .slice none 0 0, .int .i64 0, .int .i64 0, .slice none 0 0, .bool false, .slice none 0 0, .slice none 0 0] = W0 at *
  have lt := PH.out.T.lt
  have NM := hide (takeM_any W0 (w.heap.size + 1) g a c xs (0) 32 (HR.out.up PH.out.N) PH.out.Q (by omega) (by omega) (by omega))
  go_wp2_with fail
  refine NM.out.mono ?_
  rintro e V0 ⟨rfl, B, hQ, hT⟩
  have PV := hide (PH.out.call hQ hT)
  obtain ⟨G12, hG⟩ : ∃ G, W0.heap.size = G := ⟨_, rfl⟩
  rw [hG] at B lt ⊢
  have CG12 : Hid (FB (w.heap.size + 1 + 1) V0 G12 (tkB xs (0) 32)) := ⟨B, lt⟩
  clear NM hQ hT PH B lt hG
  have PH := PV
  clear PV
  have qT : V0.cell? ⟨w.heap.size + 1 + 1, 12, none⟩ = some (.slice none 0 0) := PH.out.T.cell 12
  have qF := PH.out.T.free 12
  go_upto_region 39 with fail
  have PN : Hid (PS w (V0.setCell ⟨w.heap.size + 1 + 1, 12, none⟩ (.slice (some ⟨G12, 0, none⟩) 32 32)) (.slice a xs.length c) _ [.int .i64 20, .int .i64 0, .slice none 0 0, .slice none 0 0, .string ⟨#[]⟩, .slice none 0 0, .slice none 0 0, .int .i64 0, .int .i64 0, .slice none 0 0, .bool false, .slice none 0 0, .slice (some ⟨G12, 0, none⟩) 32 32]) := PH.out.set 12 _
  have CG12' := hide (CG12.out.onl (Only.setCell V0 (w.heap.size + 1 + 1) 12 (.slice (some ⟨G12, 0, none⟩) 32 32)) (Nat.le_refl _))
  clear CG12
  have CG12 := CG12'
  clear CG12'
  clear qT qF PH
  generalize V0.setCell ⟨w.heap.size + 1 + 1, 12, none⟩ (.slice (some ⟨G12, 0, none⟩) 32 32) = W1 at *
  have PH := PN
  clear PN
  have RG := PH.out.T.rangeG
  have THR := PH.out.U.thereG
  have RR := World.rangeAt_setCells_same W1 w.heap.size 0 [.int .i64 20, .int .i64 0, .slice none 0 0, .slice none 0 0, .string ⟨#[]⟩, .slice none 0 0, .slice none 0 0, .int .i64 0, .int .i64 0, .slice none 0 0, .bool false, .slice none 0 0, .slice (some ⟨G12, 0, none⟩) 32 32] THR
  have OQ := only_setG W1 w.heap.size [.int .i64 20, .int .i64 0, .slice none 0 0, .slice none 0 0, .string ⟨#[]⟩, .slice none 0 0, .slice none 0 0, .int .i64 0, .int .i64 0, .slice none 0 0, .bool false, .slice none 0 0, .slice (some ⟨G12, 0, none⟩) 32 32] 0
  have N8 : Hid (Below w.heap.size w (W1.setCells w.heap.size 0 [.int .i64 20, .int .i64 0, .slice none 0 0, .slice none 0 0, .string ⟨#[]⟩, .slice none 0 0, .slice none 0 0, .int .i64 0, .int .i64 0, .slice none 0 0, .bool false, .slice none 0 0, .slice (some ⟨G12, 0, none⟩) 32 32])) := PH.out.N.trans (OQ.below (by omega))
  have CG12' := hide (CG12.out.onl OQ (by omega))
  clear CG12
  have CG12 := CG12'
  clear CG12'
  clear OQ PH
  have ON : ([.int .i64 20, .int .i64 0, .slice none 0 0, .slice none 0 0, .string ⟨#[]⟩, .slice none 0 0, .slice none 0 0, .int .i64 0, .int .i64 0, .slice none 0 0, .bool false, .slice none 0 0, .slice (some ⟨G12, 0, none⟩) 32 32] : List Value).toArray.all (·.oneCell') = true := all_oneCell_toArray fun v hv => by
    simp only [List.mem_cons, List.not_mem_nil, or_false] at hv
    rcases hv with rfl | rfl | rfl | rfl | rfl | rfl | rfl | rfl | rfl | rfl | rfl | rfl | rfl
    all_goals rfl
  have RES : Hid ((∃ p, Ending.returned (.agg #[.int .i64 20, .int .i64 0, .slice none 0 0, .slice none 0 0, .string ⟨#[]⟩, .slice none 0 0, .slice none 0 0, .int .i64 0, .int .i64 0, .slice none 0 0, .bool false, .slice none 0 0, .slice (some ⟨G12, 0, none⟩) 32 32]) = .returned (.agg (mgV p (rdFinished xs))) ∧ HasM (W1.setCells w.heap.size 0 [.int .i64 20, .int .i64 0, .slice none 0 0, .slice none 0 0, .string ⟨#[]⟩, .slice none 0 0, .slice none 0 0, .int .i64 0, .int .i64 0, .slice none 0 0, .bool false, .slice none 0 0, .slice (some ⟨G12, 0, none⟩) 32 32]) p (rdFinished xs) ∧ HasZ p (rdFinished xs) ∧ TyM (W1.setCells w.heap.size 0 [.int .i64 20, .int .i64 0, .slice none 0 0, .slice none 0 0, .string ⟨#[]⟩, .slice none 0 0, .slice none 0 0, .int .i64 0, .int .i64 0, .slice none 0 0, .bool false, .slice none 0 0, .slice (some ⟨G12, 0, none⟩) 32 32]) p (rdFinished xs) ∧ ∀ g, g < w.heap.size → NoM g p (rdFinished xs)) ∧ Below w.heap.size w (W1.setCells w.heap.size 0 [.int .i64 20, .int .i64 0, .slice none 0 0, .slice none 0 0, .string ⟨#[]⟩, .slice none 0 0, .slice none 0 0, .int .i64 0, .int .i64 0, .slice none 0 0, .bool false, .slice none 0 0, .slice (some ⟨G12, 0, none⟩) 32 32])) := ⟨⟨⟨none, 0, 0, none, 0, 0, none, 0, 0, none, 0, 0, none, 0, 0, none, 0, 0, some ⟨G12, 0, none⟩, 32, G12, []⟩, by simp only [mgV, rdFinished, tkB_len, List.length_nil], ⟨rd0 _ _ _ _, rd0 _ _ _ _, rdT0 _ _ _, rd0 _ _ _ _, rd0 _ _ _ _, rdL0 _ _ _ _, CG12.out.1.own0.rd, Nat.zero_le _⟩, ⟨(fun _ => rfl), (fun _ => rfl), (fun _ => rfl), (fun _ => rfl), (fun h => by cases h), fun i hi => absurd hi (by simp [rdFinished])⟩, ⟨fun h => absurd h (by simp [rdFinished]), fun h => absurd h (by simp [rdFinished])⟩, (fun g hg => ⟨(fun h => absurd h (by simp [rdFinished])), (fun h => absurd h (by simp [rdFinished])), (fun h => absurd h (by simp [rdFinished])), (fun h => absurd h (by simp [rdFinished])), (fun h => absurd h (by simp [rdFinished])), (fun h => absurd h (by simp [rdFinished])), (fun i h => absurd h (by simp [rdFinished])), (fun _ => by have h2 := CG12.out.2; show G12 ≠ _; omega)⟩)⟩, N8.out⟩
  clear N8
  go_wp2_with (first
    | (refine wpList_load_mid rfl 26 (.tmp 6) rfl (w.heap.size + 1 + 1) 0 rfl [.int .i64 20, .int .i64 0, .slice none 0 0, .slice none 0 0, .string ⟨#[]⟩, .slice none 0 0, .slice none 0 0, .int .i64 0, .int .i64 0, .slice none 0 0, .bool false, .slice none 0 0, .slice (some ⟨G12, 0, none⟩) 32 32] d13 RG hd13 hrow13 iM ?_)
    | (refine wpList_store_mid rfl 26 (.tmp 4) (.tmp 124) rfl w.heap.size 0 #[.int .i64 20, .int .i64 0, .slice none 0 0, .slice none 0 0, .string ⟨#[]⟩, .slice none 0 0, .slice none 0 0, .int .i64 0, .int .i64 0, .slice none 0 0, .bool false, .slice none 0 0, .slice (some ⟨G12, 0, none⟩) 32 32] rfl rfl THR iM ON ?_))
  exact bodyPost_ret (v := .agg #[.int .i64 20, .int .i64 0, .slice none 0 0, .slice none 0 0, .string ⟨#[]⟩, .slice none 0 0, .slice none 0 0, .int .i64 0, .int .i64 0, .slice none 0 0, .bool false, .slice none 0 0, .slice (some ⟨G12, 0, none⟩) 32 32]) (results_cellG Tryz.results30 _ _ w.heap.size _ d13 rfl RR hd13 hrow13 iM) rfl RES.out
end Go.Proofs.YtmmbkkfjiaoeiaaGreat
