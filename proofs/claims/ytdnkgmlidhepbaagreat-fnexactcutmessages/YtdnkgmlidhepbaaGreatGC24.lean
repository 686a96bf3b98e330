import Derived.Test.YtdnkgmlidhepbaaGreatGC19
namespace Go.Proofs.YtdnkgmlidhepbaaGreat
open Go Go.RowKit
set_option maxRecDepth 100000 in
set_option maxHeartbeats 8000000 in
theorem parseProof_any (w : World) (g : Nat) (a : Option Addr) (c : Nat) (xs : List Int) (hr : Rd w g a .u8 xs) (_hb : Byt xs) (hx : xs.length ≤ 8192) :
    Calls Tryz.prog 19 #[.int .i64 15, .slice a xs.length c] w fun e w' => (∃ p, e = .returned (.agg (mgV p (rdProof xs))) ∧ HasM w' p (rdProof xs) ∧ HasZ p (rdProof xs) ∧ TyM w' p (rdProof xs) ∧ ∀ g, g < w.heap.size → NoM g p (rdProof xs)) ∧ Below w.heap.size w w' := by
  have P0 : PS w ((((w.alloc (.cells #[.int .i64 0, .int .i64 0, .slice none 0 0, .slice none 0 0, .string ⟨#[]⟩, .slice none 0 0, .slice none 0 0, .int .i64 0, .int .i64 0, .slice none 0 0, .bool false, .slice none 0 0, .slice none 0 0] 26)).alloc (.cells #[.slice a xs.length c, .int .i64 0] 58)).alloc (.cells #[.int .i64 0, .int .i64 0, .slice none 0 0, .slice none 0 0, .string ⟨#[]⟩, .slice none 0 0, .slice none 0 0, .int .i64 0, .int .i64 0, .slice none 0 0, .bool false, .slice none 0 0, .slice none 0 0] 26)).setCells (w.heap.size + 1 + 1) 0 [.int .i64 15, .int .i64 0, .slice none 0 0, .slice none 0 0, .string ⟨#[]⟩, .slice none 0 0, .slice none 0 0, .int .i64 0, .int .i64 0, .slice none 0 0, .bool false, .slice none 0 0, .slice none 0 0]) (.slice a xs.length c) 0 [.int .i64 15, .int .i64 0, .slice none 0 0, .slice none 0 0, .string ⟨#[]⟩, .slice none 0 0, .slice none 0 0, .int .i64 0, .int .i64 0, .slice none 0 0, .bool false, .slice none 0 0, .slice none 0 0] := PS.start w (.slice a xs.length c) 15
  have THR : (((w.alloc (.cells #[.int .i64 0, .int .i64 0, .slice none 0 0, .slice none 0 0, .string ⟨#[]⟩, .slice none 0 0, .slice none 0 0, .int .i64 0, .int .i64 0, .slice none 0 0, .bool false, .slice none 0 0, .slice none 0 0] 26)).alloc (.cells #[.slice a xs.length c, .int .i64 0] 58)).alloc (.cells #[.int .i64 0, .int .i64 0, .slice none 0 0, .slice none 0 0, .string ⟨#[]⟩, .slice none 0 0, .slice none 0 0, .int .i64 0, .int .i64 0, .slice none 0 0, .bool false, .slice none 0 0, .slice none 0 0] 26)).there (w.heap.size + 1 + 1) 0 13 := PS.room w (.slice a xs.length c)
  obtain ⟨d13, hd13, hrow13⟩ := rowM
  have HR := hide hr
  clear hr
  go_enter Tryz.func19, Tryz.ntmps19
  go_upto_region 3 with (refine wpList_store_mid rfl 26 (.tmp 6) (.tmp 12) rfl (w.heap.size + 1 + 1) 0 #[.int .i64 15, .int .i64 0, .slice none 0 0, .slice none 0 0, .string ⟨#[]⟩, .slice none 0 0, .slice none 0 0, .int .i64 0, .int .i64 0, .slice none 0 0, .bool false, .slice none 0 0, .slice none 0 0] rfl rfl THR iM (all_oneCell_toArray fun v hv => by (simp only [List.mem_cons, List.not_mem_nil, or_false] at hv; rcases hv with rfl | rfl | rfl | rfl | rfl | rfl | rfl | rfl | rfl | rfl | rfl | rfl | rfl; all_goals rfl)) ?_)
  have PH := hide P0
  clear P0 THR
  generalize (((w.alloc (.cells #[.int .i64 0, .int .i64 0, .slice none 0 0, .slice none 0 0, .string ⟨#[]⟩, .slice none 0 0, .slice none 0 0, .int .i64 0, .int .i64 0, .slice none 0 0, .bool false, .slice none 0 0, .slice none 0 0] 26)).alloc (.cells #[.slice a xs.length c, .int .i64 0] 58)).alloc (.cells #[.int .i64 0, .int .i64 0, .slice none 0 0, .slice none 0 0, .string ⟨#[]⟩, .slice none 0 0, .slice none 0 0, .int .i64 0, .int .i64 0, .slice none 0 0, .bool false, .slice none 0 0, .slice none 0 0] 26)).setCells (w.heap.size + 1 + 1) 0 [.int .i64 15, .int .i64 0, .slice none 0 0, .slice none 0 0, .string ⟨#[]⟩, .slice none 0 0, .slice none 0 0, .int .i64 0, .int .i64 0, .slice none 0 0, .bool false, .slice none 0 0, .slice none 0 0] = W0 at *
  have lt := PH.out.T.lt
  have NM := hide (takeM_any W0 (w.heap.size + 1) g a c xs (0) 64 (HR.out.up PH.out.N) PH.out.Q (by omega) (by omega) (by omega))
  go_wp2_with fail
  refine NM.out.mono ?_
  rintro e V0 ⟨rfl, B, hQ, hT⟩
  have PV := hide (PH.out.call hQ hT)
  obtain ⟨G12, hG⟩ : ∃ G, W0.heap.size = G := ⟨_, rfl⟩
  rw [hG] at B lt ⊢
  have CG12 : Hid (FB (w.heap.size + 1 + 1) V0 G12 (tkB xs (0) 64)) := ⟨B, lt⟩
  clear NM hQ hT PH B lt hG
  have PH := PV
  clear PV
  have qT : V0.cell? ⟨w.heap.size + 1 + 1, 12, none⟩ = some (.slice none 0 0) := PH.out.T.cell 12
  have qF := PH.out.T.free 12
  go_upto_region 39 with fail
  have PN : Hid (PS w (V0.setCell ⟨w.heap.size + 1 + 1, 12, none⟩ (.slice (some ⟨G12, 0, none⟩) 64 64)) (.slice a xs.length c) _ [.int .i64 15, .int .i64 0, .slice none 0 0, .slice none 0 0, .string ⟨#[]⟩, .slice none 0 0, .slice none 0 0, .int .i64 0, .int .i64 0, .slice none 0 0, .bool false, .slice none 0 0, .slice (some ⟨G12, 0, none⟩) 64 64]) := PH.out.set 12 _
  have CG12' := hide (CG12.out.onl (Only.setCell V0 (w.heap.size + 1 + 1) 12 (.slice (some ⟨G12, 0, none⟩) 64 64)) (Nat.le_refl _))
  clear CG12
  have CG12 := CG12'
  clear CG12'
  clear qT qF PH
  generalize V0.setCell ⟨w.heap.size + 1 + 1, 12, none⟩ (.slice (some ⟨G12, 0, none⟩) 64 64) = W1 at *
  have PH := PN
  clear PN
  have RG := PH.out.T.rangeG
  have THR := PH.out.U.thereG
  have RR := World.rangeAt_setCells_same W1 w.heap.size 0 [.int .i64 15, .int .i64 0, .slice none 0 0, .slice none 0 0, .string ⟨#[]⟩, .slice none 0 0, .slice none 0 0, .int .i64 0, .int .i64 0, .slice none 0 0, .bool false, .slice none 0 0, .slice (some ⟨G12, 0, none⟩) 64 64] THR
  have OQ := only_setG W1 w.heap.size [.int .i64 15, .int .i64 0, .slice none 0 0, .slice none 0 0, .string ⟨#[]⟩, .slice none 0 0, .slice none 0 0, .int .i64 0, .int .i64 0, .slice none 0 0, .bool false, .slice none 0 0, .slice (some ⟨G12, 0, none⟩) 64 64] 0
  have N8 : Hid (Below w.heap.size w (W1.setCells w.heap.size 0 [.int .i64 15, .int .i64 0, .slice none 0 0, .slice none 0 0, .string ⟨#[]⟩, .slice none 0 0, .slice none 0 0, .int .i64 0, .int .i64 0, .slice none 0 0, .bool false, .slice none 0 0, .slice (some ⟨G12, 0, none⟩) 64 64])) := PH.out.N.trans (OQ.below (by omega))
  have CG12' := hide (CG12.out.onl OQ (by omega))
  clear CG12
  have CG12 := CG12'
  clear CG12'
  clear OQ PH
  have ON : ([.int .i64 15, .int .i64 0, .slice none 0 0, .slice none 0 0, .string ⟨#[]⟩, .slice none 0 0, .slice none 0 0, .int .i64 0, .int .i64 0, .slice none 0 0, .bool false, .slice none 0 0, .slice (some ⟨G12, 0, none⟩) 64 64] : List Value).toArray.all (·.oneCell') = true := all_oneCell_toArray fun v hv => by
    simp only [List.mem_cons, List.not_mem_nil, or_false] at hv
    rcases hv with rfl | rfl | rfl | rfl | rfl | rfl | rfl | rfl | rfl | rfl | rfl | rfl | rfl
    all_goals rfl
  have RES : Hid ((∃ p, Ending.returned (.agg #[.int .i64 15, .int .i64 0, .slice none 0 0, .slice none 0 0, .string ⟨#[]⟩, .slice none 0 0, .slice none 0 0, .int .i64 0, .int .i64 0, .slice none 0 0, .bool false, .slice none 0 0, .slice (some ⟨G12, 0, none⟩) 64 64]) = .returned (.agg (mgV p (rdProof xs))) ∧ HasM (W1.setCells w.heap.size 0 [.int .i64 15, .int .i64 0, .slice none 0 0, .slice none 0 0, .string ⟨#[]⟩, .slice none 0 0, .slice none 0 0, .int .i64 0, .int .i64 0, .slice none 0 0, .bool false, .slice none 0 0, .slice (some ⟨G12, 0, none⟩) 64 64]) p (rdProof xs) ∧ HasZ p (rdProof xs) ∧ TyM (W1.setCells w.heap.size 0 [.int .i64 15, .int .i64 0, .slice none 0 0, .slice none 0 0, .string ⟨#[]⟩, .slice none 0 0, .slice none 0 0, .int .i64 0, .int .i64 0, .slice none 0 0, .bool false, .slice none 0 0, .slice (some ⟨G12, 0, none⟩) 64 64]) p (rdProof xs) ∧ ∀ g, g < w.heap.size → NoM g p (rdProof xs)) ∧ Below w.heap.size w (W1.setCells w.heap.size 0 [.int .i64 15, .int .i64 0, .slice none 0 0, .slice none 0 0, .string ⟨#[]⟩, .slice none 0 0, .slice none 0 0, .int .i64 0, .int .i64 0, .slice none 0 0, .bool false, .slice none 0 0, .slice (some ⟨G12, 0, none⟩) 64 64])) := ⟨⟨⟨none, 0, 0, none, 0, 0, none, 0, 0, none, 0, 0, none, 0, 0, none, 0, 0, some ⟨G12, 0, none⟩, 64, G12, []⟩, by simp only [mgV, rdProof, tkB_len, List.length_nil], ⟨rd0 _ _ _ _, rd0 _ _ _ _, rdT0 _ _ _, rd0 _ _ _ _, rd0 _ _ _ _, rdL0 _ _ _ _, CG12.out.1.own0.rd, Nat.zero_le _⟩, ⟨(fun _ => rfl), (fun _ => rfl), (fun _ => rfl), (fun _ => rfl), (fun h => by cases h), fun i hi => absurd hi (by simp [rdProof])⟩, ⟨fun h => absurd h (by simp [rdProof]), fun h => absurd h (by simp [rdProof])⟩, (fun g hg => ⟨(fun h => absurd h (by simp [rdProof])), (fun h => absurd h (by simp [rdProof])), (fun h => absurd h (by simp [rdProof])), (fun h => absurd h (by simp [rdProof])), (fun h => absurd h (by simp [rdProof])), (fun h => absurd h (by simp [rdProof])), (fun i h => absurd h (by simp [rdProof])), (fun _ => by have h2 := CG12.out.2; show G12 ≠ _; omega)⟩)⟩, N8.out⟩
  clear N8
  go_wp2_with (first
    | (refine wpList_load_mid rfl 26 (.tmp 6) rfl (w.heap.size + 1 + 1) 0 rfl [.int .i64 15, .int .i64 0, .slice none 0 0, .slice none 0 0, .string ⟨#[]⟩, .slice none 0 0, .slice none 0 0, .int .i64 0, .int .i64 0, .slice none 0 0, .bool false, .slice none 0 0, .slice (some ⟨G12, 0, none⟩) 64 64] d13 RG hd13 hrow13 iM ?_)
    | (refine wpList_store_mid rfl 26 (.tmp 4) (.tmp 124) rfl w.heap.size 0 #[.int .i64 15, .int .i64 0, .slice none 0 0, .slice none 0 0, .string ⟨#[]⟩, .slice none 0 0, .slice none 0 0, .int .i64 0, .int .i64 0, .slice none 0 0, .bool false, .slice none 0 0, .slice (some ⟨G12, 0, none⟩) 64 64] rfl rfl THR iM ON ?_))
  exact bodyPost_ret (v := .agg #[.int .i64 15, .int .i64 0, .slice none 0 0, .slice none 0 0, .string ⟨#[]⟩, .slice none 0 0, .slice none 0 0, .int .i64 0, .int .i64 0, .slice none 0 0, .bool false, .slice none 0 0, .slice (some ⟨G12, 0, none⟩) 64 64]) (results_cellG Tryz.results19 _ _ w.heap.size _ d13 rfl RR hd13 hrow13 iM) rfl RES.out
end Go.Proofs.YtdnkgmlidhepbaaGreat
namespace Go.Proofs.YtdnkgmlidhepbaaGreat
open Go Go.RowKit
set_option maxRecDepth 100000 in
set_option maxHeartbeats 8000000 in
theorem parseTicket_any (w : World) (g : Nat) (a : Option Addr) (c : Nat) (xs : List Int) (hr : Rd w g a .u8 xs) (hb : Byt xs) (hx : xs.length ≤ 8192) :
    Calls Tryz.prog 19 #[.int .i64 4, .slice a xs.length c] w fun e w' => (∃ p, e = .returned (.agg (mgV p (rdTicket xs))) ∧ HasM w' p (rdTicket xs) ∧ HasZ p (rdTicket xs) ∧ TyM w' p (rdTicket xs) ∧ ∀ g, g < w.heap.size → NoM g p (rdTicket xs)) ∧ Below w.heap.size w w' := by
  have P0 : PS w ((((w.alloc (.cells #[.int .i64 0, .int .i64 0, .slice none 0 0, .slice none 0 0, .string ⟨#[]⟩, .slice none 0 0, .slice none 0 0, .int .i64 0, .int .i64 0, .slice none 0 0, .bool false, .slice none 0 0, .slice none 0 0] 26)).alloc (.cells #[.slice a xs.length c, .int .i64 0] 58)).alloc (.cells #[.int .i64 0, .int .i64 0, .slice none 0 0, .slice none 0 0, .string ⟨#[]⟩, .slice none 0 0, .slice none 0 0, .int .i64 0, .int .i64 0, .slice none 0 0, .bool false, .slice none 0 0, .slice none 0 0] 26)).setCells (w.heap.size + 1 + 1) 0 [.int .i64 4, .int .i64 0, .slice none 0 0, .slice none 0 0, .string ⟨#[]⟩, .slice none 0 0, .slice none 0 0, .int .i64 0, .int .i64 0, .slice none 0 0, .bool false, .slice none 0 0, .slice none 0 0]) (.slice a xs.length c) 0 [.int .i64 4, .int .i64 0, .slice none 0 0, .slice none 0 0, .string ⟨#[]⟩, .slice none 0 0, .slice none 0 0, .int .i64 0, .int .i64 0, .slice none 0 0, .bool false, .slice none 0 0, .slice none 0 0] := PS.start w (.slice a xs.length c) 4
  have THR : (((w.alloc (.cells #[.int .i64 0, .int .i64 0, .slice none 0 0, .slice none 0 0, .string ⟨#[]⟩, .slice none 0 0, .slice none 0 0, .int .i64 0, .int .i64 0, .slice none 0 0, .bool false, .slice none 0 0, .slice none 0 0] 26)).alloc (.cells #[.slice a xs.length c, .int .i64 0] 58)).alloc (.cells #[.int .i64 0, .int .i64 0, .slice none 0 0, .slice none 0 0, .string ⟨#[]⟩, .slice none 0 0, .slice none 0 0, .int .i64 0, .int .i64 0, .slice none 0 0, .bool false, .slice none 0 0, .slice none 0 0] 26)).there (w.heap.size + 1 + 1) 0 13 := PS.room w (.slice a xs.length c)
  obtain ⟨d13, hd13, hrow13⟩ := rowM
  have HR := hide hr
  clear hr
  go_enter Tryz.func19, Tryz.ntmps19
  go_upto_region 3 with (refine wpList_store_mid rfl 26 (.tmp 6) (.tmp 12) rfl (w.heap.size + 1 + 1) 0 #[.int .i64 4, .int .i64 0, .slice none 0 0, .slice none 0 0, .string ⟨#[]⟩, .slice none 0 0, .slice none 0 0, .int .i64 0, .int .i64 0, .slice none 0 0, .bool false, .slice none 0 0, .slice none 0 0] rfl rfl THR iM (all_oneCell_toArray fun v hv => by (simp only [List.mem_cons, List.not_mem_nil, or_false] at hv; rcases hv with rfl | rfl | rfl | rfl | rfl | rfl | rfl | rfl | rfl | rfl | rfl | rfl | rfl; all_goals rfl)) ?_)
  have PH := hide P0
  clear P0 THR
  generalize (((w.alloc (.cells #[.int .i64 0, .int .i64 0, .slice none 0 0, .slice none 0 0, .string ⟨#[]⟩, .slice none 0 0, .slice none 0 0, .int .i64 0, .int .i64 0, .slice none 0 0, .bool false, .slice none 0 0, .slice none 0 0] 26)).alloc (.cells #[.slice a xs.length c, .int .i64 0] 58)).alloc (.cells #[.int .i64 0, .int .i64 0, .slice none 0 0, .slice none 0 0, .string ⟨#[]⟩, .slice none 0 0, .slice none 0 0, .int .i64 0, .int .i64 0, .slice none 0 0, .bool false, .slice none 0 0, .slice none 0 0] 26)).setCells (w.heap.size + 1 + 1) 0 [.int .i64 4, .int .i64 0, .slice none 0 0, .slice none 0 0, .string ⟨#[]⟩, .slice none 0 0, .slice none 0 0, .int .i64 0, .int .i64 0, .slice none 0 0, .bool false, .slice none 0 0, .slice none 0 0] = W0 at *
  have NM := hide (numM_any W0 (w.heap.size + 1) g a c xs (0) 4 (HR.out.up PH.out.N) hb PH.out.Q (by omega) (by omega) (by decide))
  go_wp2_with fail
  refine NM.out.mono ?_
  rintro e V0 ⟨rfl, hQ, hT⟩
  have PV := hide (PH.out.call hQ hT)
  clear NM hQ hT PH
  have PH := PV
  clear PV
  have qT : V0.cell? ⟨w.heap.size + 1 + 1, 7, none⟩ = some (.int .i64 0) := PH.out.T.cell 7
  have qF := PH.out.T.free 7
  go_upto_region 22 with fail
  have PN : Hid (PS w (V0.setCell ⟨w.heap.size + 1 + 1, 7, none⟩ (.int .i64 (beN xs 0 4))) (.slice a xs.length c) _ [.int .i64 4, .int .i64 0, .slice none 0 0, .slice none 0 0, .string ⟨#[]⟩, .slice none 0 0, .slice none 0 0, .int .i64 (beN xs 0 4), .int .i64 0, .slice none 0 0, .bool false, .slice none 0 0, .slice none 0 0]) := PH.out.set 7 _
  clear qT qF PH
  generalize V0.setCell ⟨w.heap.size + 1 + 1, 7, none⟩ (.int .i64 (beN xs 0 4)) = W1 at *
  have PH := PN
  clear PN
  have NM := hide (numM_any W1 (w.heap.size + 1) g a c xs (0 + 4) 4 (HR.out.up PH.out.N) hb PH.out.Q (by omega) (by omega) (by decide))
  go_wp2_with fail
  refine NM.out.mono ?_
  rintro e V2 ⟨rfl, hQ, hT⟩
  have PV := hide (PH.out.call hQ hT)
  clear NM hQ hT PH
  have PH := PV
  clear PV
  have qT : V2.cell? ⟨w.heap.size + 1 + 1, 8, none⟩ = some (.int .i64 0) := PH.out.T.cell 8
  have qF := PH.out.T.free 8
  go_upto_region 23 with fail
  have PN : Hid (PS w (V2.setCell ⟨w.heap.size + 1 + 1, 8, none⟩ (.int .i64 (beN xs (0 + 4) 4))) (.slice a xs.length c) _ [.int .i64 4, .int .i64 0, .slice none 0 0, .slice none 0 0, .string ⟨#[]⟩, .slice none 0 0, .slice none 0 0, .int .i64 (beN xs 0 4), .int .i64 (beN xs (0 + 4) 4), .slice none 0 0, .bool false, .slice none 0 0, .slice none 0 0]) := PH.out.set 8 _
  clear qT qF PH
  generalize V2.setCell ⟨w.heap.size + 1 + 1, 8, none⟩ (.int .i64 (beN xs (0 + 4) 4)) = W3 at *
  have PH := PN
  clear PN
  have lt := PH.out.T.lt
  have NM := hide (takeM_any W3 (w.heap.size + 1) g a c xs (0 + 4 + 4) 32 (HR.out.up PH.out.N) PH.out.Q (by omega) (by omega) (by omega))
  go_wp2_with fail
  refine NM.out.mono ?_
  rintro e V4 ⟨rfl, B, hQ, hT⟩
  have PV := hide (PH.out.call hQ hT)
  obtain ⟨G2, hG⟩ : ∃ G, W3.heap.size = G := ⟨_, rfl⟩
  rw [hG] at B lt ⊢
  have CG2 : Hid (FB (w.heap.size + 1 + 1) V4 G2 (tkB xs (0 + 4 + 4) 32)) := ⟨B, lt⟩
  clear NM hQ hT PH B lt hG
  have PH := PV
  clear PV
  have qT : V4.cell? ⟨w.heap.size + 1 + 1, 2, none⟩ = some (.slice none 0 0) := PH.out.T.cell 2
  have qF := PH.out.T.free 2
  go_upto_region 24 with fail
  have PN : Hid (PS w (V4.setCell ⟨w.heap.size + 1 + 1, 2, none⟩ (.slice (some ⟨G2, 0, none⟩) 32 32)) (.slice a xs.length c) _ [.int .i64 4, .int .i64 0, .slice (some ⟨G2, 0, none⟩) 32 32, .slice none 0 0, .string ⟨#[]⟩, .slice none 0 0, .slice none 0 0, .int .i64 (beN xs 0 4), .int .i64 (beN xs (0 + 4) 4), .slice none 0 0, .bool false, .slice none 0 0, .slice none 0 0]) := PH.out.set 2 _
  have CG2' := hide (CG2.out.onl (Only.setCell V4 (w.heap.size + 1 + 1) 2 (.slice (some ⟨G2, 0, none⟩) 32 32)) (Nat.le_refl _))
  clear CG2
  have CG2 := CG2'
  clear CG2'
  clear qT qF PH
  generalize V4.setCell ⟨w.heap.size + 1 + 1, 2, none⟩ (.slice (some ⟨G2, 0, none⟩) 32 32) = W5 at *
  have PH := PN
  clear PN
  obtain ⟨m, hm⟩ := Int.eq_ofNat_of_zero_le (be_byte hb 40 2 (by decide)).1
  have em : Hid ((beN xs 40 2).toNat = m) := by show _ = _; omega
  have mb := be2 hb 40
  rw [em.out] at mb
  have NM := hide (numM_any W5 (w.heap.size + 1) g a c xs (0 + 4 + 4 + 32) 2 (HR.out.up PH.out.N) hb PH.out.Q (by omega) (by omega) (by decide))
  rw [show (0 + 4 + 4 + 32 : Nat) = 40 from rfl, hm] at NM
  clear hm
  go_wp2_with fail
  refine NM.out.mono ?_
  rintro e V6 ⟨rfl, hQ, hT⟩
  have PV := hide (PH.out.call hQ hT)
  have CG2' := hide (CG2.out.tch hT (by omega))
  clear CG2
  have CG2 := CG2'
  clear CG2'
  clear NM hQ hT PH
  have PH := PV
  clear PV
  have lt := PH.out.T.lt
  have NM := hide (takeM_any V6 (w.heap.size + 1) g a c xs (40 + 2) m (HR.out.up PH.out.N) PH.out.Q (by omega) (by omega) (by omega))
  go_wp2_with fail
  refine NM.out.mono ?_
  rintro e V7 ⟨rfl, B, hQ, hT⟩
  have PV := hide (PH.out.call hQ hT)
  have CG2' := hide (CG2.out.tch hT (by omega))
  clear CG2
  have CG2 := CG2'
  clear CG2'
  obtain ⟨G6, hG⟩ : ∃ G, V6.heap.size = G := ⟨_, rfl⟩
  rw [hG] at B lt ⊢
  have CG6 : Hid (FB (w.heap.size + 1 + 1) V7 G6 (tkB xs (40 + 2) m)) := ⟨B, lt⟩
  clear NM hQ hT PH B lt hG
  have PH := PV
  clear PV
  have qT : V7.cell? ⟨w.heap.size + 1 + 1, 6, none⟩ = some (.slice none 0 0) := PH.out.T.cell 6
  have qF := PH.out.T.free 6
  go_upto_region 39 with fail
  have PN : Hid (PS w (V7.setCell ⟨w.heap.size + 1 + 1, 6, none⟩ (.slice (some ⟨G6, 0, none⟩) m m)) (.slice a xs.length c) _ [.int .i64 4, .int .i64 0, .slice (some ⟨G2, 0, none⟩) 32 32, .slice none 0 0, .string ⟨#[]⟩, .slice none 0 0, .slice (some ⟨G6, 0, none⟩) m m, .int .i64 (beN xs 0 4), .int .i64 (beN xs (0 + 4) 4), .slice none 0 0, .bool false, .slice none 0 0, .slice none 0 0]) := PH.out.set 6 _
  have CG2' := hide (CG2.out.onl (Only.setCell V7 (w.heap.size + 1 + 1) 6 (.slice (some ⟨G6, 0, none⟩) m m)) (Nat.le_refl _))
  clear CG2
  have CG2 := CG2'
  clear CG2'
  have CG6' := hide (CG6.out.onl (Only.setCell V7 (w.heap.size + 1 + 1) 6 (.slice (some ⟨G6, 0, none⟩) m m)) (Nat.le_refl _))
  clear CG6
  have CG6 := CG6'
  clear CG6'
  clear qT qF PH
  generalize V7.setCell ⟨w.heap.size + 1 + 1, 6, none⟩ (.slice (some ⟨G6, 0, none⟩) m m) = W8 at *
  have PH := PN
  clear PN
  have RG := PH.out.T.rangeG
  have THR := PH.out.U.thereG
  have RR := World.rangeAt_setCells_same W8 w.heap.size 0 [.int .i64 4, .int .i64 0, .slice (some ⟨G2, 0, none⟩) 32 32, .slice none 0 0, .string ⟨#[]⟩, .slice none 0 0, .slice (some ⟨G6, 0, none⟩) m m, .int .i64 (beN xs 0 4), .int .i64 (beN xs (0 + 4) 4), .slice none 0 0, .bool false, .slice none 0 0, .slice none 0 0] THR
  have OQ := only_setG W8 w.heap.size [.int .i64 4, .int .i64 0, .slice (some ⟨G2, 0, none⟩) 32 32, .slice none 0 0, .string ⟨#[]⟩, .slice none 0 0, .slice (some ⟨G6, 0, none⟩) m m, .int .i64 (beN xs 0 4), .int .i64 (beN xs (0 + 4) 4), .slice none 0 0, .bool false, .slice none 0 0, .slice none 0 0] 0
  have N8 : Hid (Below w.heap.size w (W8.setCells w.heap.size 0 [.int .i64 4, .int .i64 0, .slice (some ⟨G2, 0, none⟩) 32 32, .slice none 0 0, .string ⟨#[]⟩, .slice none 0 0, .slice (some ⟨G6, 0, none⟩) m m, .int .i64 (beN xs 0 4), .int .i64 (beN xs (0 + 4) 4), .slice none 0 0, .bool false, .slice none 0 0, .slice none 0 0])) := PH.out.N.trans (OQ.below (by omega))
  have CG2' := hide (CG2.out.onl OQ (by omega))
  clear CG2
  have CG2 := CG2'
  clear CG2'
  have CG6' := hide (CG6.out.onl OQ (by omega))
  clear CG6
  have CG6 := CG6'
  clear CG6'
  clear OQ PH
  have ON : ([.int .i64 4, .int .i64 0, .slice (some ⟨G2, 0, none⟩) 32 32, .slice none 0 0, .string ⟨#[]⟩, .slice none 0 0, .slice (some ⟨G6, 0, none⟩) m m, .int .i64 (beN xs 0 4), .int .i64 (beN xs (0 + 4) 4), .slice none 0 0, .bool false, .slice none 0 0, .slice none 0 0] : List Value).toArray.all (·.oneCell') = true := all_oneCell_toArray fun v hv => by
    simp only [List.mem_cons, List.not_mem_nil, or_false] at hv
    rcases hv with rfl | rfl | rfl | rfl | rfl | rfl | rfl | rfl | rfl | rfl | rfl | rfl | rfl
    all_goals rfl
  have RES : Hid ((∃ p, Ending.returned (.agg #[.int .i64 4, .int .i64 0, .slice (some ⟨G2, 0, none⟩) 32 32, .slice none 0 0, .string ⟨#[]⟩, .slice none 0 0, .slice (some ⟨G6, 0, none⟩) m m, .int .i64 (beN xs 0 4), .int .i64 (beN xs (0 + 4) 4), .slice none 0 0, .bool false, .slice none 0 0, .slice none 0 0]) = .returned (.agg (mgV p (rdTicket xs))) ∧ HasM (W8.setCells w.heap.size 0 [.int .i64 4, .int .i64 0, .slice (some ⟨G2, 0, none⟩) 32 32, .slice none 0 0, .string ⟨#[]⟩, .slice none 0 0, .slice (some ⟨G6, 0, none⟩) m m, .int .i64 (beN xs 0 4), .int .i64 (beN xs (0 + 4) 4), .slice none 0 0, .bool false, .slice none 0 0, .slice none 0 0]) p (rdTicket xs) ∧ HasZ p (rdTicket xs) ∧ TyM (W8.setCells w.heap.size 0 [.int .i64 4, .int .i64 0, .slice (some ⟨G2, 0, none⟩) 32 32, .slice none 0 0, .string ⟨#[]⟩, .slice none 0 0, .slice (some ⟨G6, 0, none⟩) m m, .int .i64 (beN xs 0 4), .int .i64 (beN xs (0 + 4) 4), .slice none 0 0, .bool false, .slice none 0 0, .slice none 0 0]) p (rdTicket xs) ∧ ∀ g, g < w.heap.size → NoM g p (rdTicket xs)) ∧ Below w.heap.size w (W8.setCells w.heap.size 0 [.int .i64 4, .int .i64 0, .slice (some ⟨G2, 0, none⟩) 32 32, .slice none 0 0, .string ⟨#[]⟩, .slice none 0 0, .slice (some ⟨G6, 0, none⟩) m m, .int .i64 (beN xs 0 4), .int .i64 (beN xs (0 + 4) 4), .slice none 0 0, .bool false, .slice none 0 0, .slice none 0 0])) := ⟨⟨⟨some ⟨G2, 0, none⟩, 32, G2, none, 0, 0, none, 0, 0, some ⟨G6, 0, none⟩, m, G6, none, 0, 0, none, 0, 0, none, 0, 0, []⟩, by simp only [mgV, rdTicket, tkB_len, List.length_nil, em.out], ⟨CG2.out.1.own0.rd, rd0 _ _ _ _, rdT0 _ _ _, (by show Rd _ _ _ _ (tkB xs 42 (beN xs 40 2).toNat); rw [em.out]; exact CG6.out.1.own0.rd), rd0 _ _ _ _, rdL0 _ _ _ _, rd0 _ _ _ _, Nat.zero_le _⟩, ⟨(fun h => by cases h), (fun _ => rfl), (fun h => by cases h), (fun _ => rfl), (fun _ => rfl), fun i hi => absurd hi (by simp [rdTicket])⟩, ⟨fun h => absurd h (by simp [rdTicket]), fun h => absurd h (by simp [rdTicket])⟩, (fun g hg => ⟨(fun _ => by have h2 := CG2.out.2; show G2 ≠ _; omega), (fun h => absurd h (by simp [rdTicket])), (fun h => absurd h (by simp [rdTicket])), (fun _ => by have h2 := CG6.out.2; show G6 ≠ _; omega), (fun h => absurd h (by simp [rdTicket])), (fun h => absurd h (by simp [rdTicket])), (fun i h => absurd h (by simp [rdTicket])), (fun h => absurd h (by simp [rdTicket]))⟩)⟩, N8.out⟩
  clear N8
  go_wp2_with (first
    | (refine wpList_load_mid rfl 26 (.tmp 6) rfl (w.heap.size + 1 + 1) 0 rfl [.int .i64 4, .int .i64 0, .slice (some ⟨G2, 0, none⟩) 32 32, .slice none 0 0, .string ⟨#[]⟩, .slice none 0 0, .slice (some ⟨G6, 0, none⟩) m m, .int .i64 (beN xs 0 4), .int .i64 (beN xs (0 + 4) 4), .slice none 0 0, .bool false, .slice none 0 0, .slice none 0 0] d13 RG hd13 hrow13 iM ?_)
    | (refine wpList_store_mid rfl 26 (.tmp 4) (.tmp 124) rfl w.heap.size 0 #[.int .i64 4, .int .i64 0, .slice (some ⟨G2, 0, none⟩) 32 32, .slice none 0 0, .string ⟨#[]⟩, .slice none 0 0, .slice (some ⟨G6, 0, none⟩) m m, .int .i64 (beN xs 0 4), .int .i64 (beN xs (0 + 4) 4), .slice none 0 0, .bool false, .slice none 0 0, .slice none 0 0] rfl rfl THR iM ON ?_))
  exact bodyPost_ret (v := .agg #[.int .i64 4, .int .i64 0, .slice (some ⟨G2, 0, none⟩) 32 32, .slice none 0 0, .string ⟨#[]⟩, .slice none 0 0, .slice (some ⟨G6, 0, none⟩) m m, .int .i64 (beN xs 0 4), .int .i64 (beN xs (0 + 4) 4), .slice none 0 0, .bool false, .slice none 0 0, .slice none 0 0]) (results_cellG Tryz.results19 _ _ w.heap.size _ d13 rfl RR hd13 hrow13 iM) rfl RES.out
end Go.Proofs.YtdnkgmlidhepbaaGreat
namespace Go.Proofs.YtdnkgmlidhepbaaGreat
open Go Go.RowKit
set_option maxRecDepth 100000 in
set_option maxHeartbeats 8000000 in
theorem parseUpdate_any (w : World) (g : Nat) (a : Option Addr) (c : Nat) (xs : List Int) (hr : Rd w g a .u8 xs) (hb : Byt xs) (hx : xs.length ≤ 8192) :
    Calls Tryz.prog 19 #[.int .i64 24, .slice a xs.length c] w fun e w' => (∃ p, e = .returned (.agg (mgV p (rdUpdate xs))) ∧ HasM w' p (rdUpdate xs) ∧ HasZ p (rdUpdate xs) ∧ TyM w' p (rdUpdate xs) ∧ ∀ g, g < w.heap.size → NoM g p (rdUpdate xs)) ∧ Below w.heap.size w w' := by
  have P0 : PS w ((((w.alloc (.cells #[.int .i64 0, .int .i64 0, .slice none 0 0, .slice none 0 0, .string ⟨#[]⟩, .slice none 0 0, .slice none 0 0, .int .i64 0, .int .i64 0, .slice none 0 0, .bool false, .slice none 0 0, .slice none 0 0] 26)).alloc (.cells #[.slice a xs.length c, .int .i64 0] 58)).alloc (.cells #[.int .i64 0, .int .i64 0, .slice none 0 0, .slice none 0 0, .string ⟨#[]⟩, .slice none 0 0, .slice none 0 0, .int .i64 0, .int .i64 0, .slice none 0 0, .bool false, .slice none 0 0, .slice none 0 0] 26)).setCells (w.heap.size + 1 + 1) 0 [.int .i64 24, .int .i64 0, .slice none 0 0, .slice none 0 0, .string ⟨#[]⟩, .slice none 0 0, .slice none 0 0, .int .i64 0, .int .i64 0, .slice none 0 0, .bool false, .slice none 0 0, .slice none 0 0]) (.slice a xs.length c) 0 [.int .i64 24, .int .i64 0, .slice none 0 0, .slice none 0 0, .string ⟨#[]⟩, .slice none 0 0, .slice none 0 0, .int .i64 0, .int .i64 0, .slice none 0 0, .bool false, .slice none 0 0, .slice none 0 0] := PS.start w (.slice a xs.length c) 24
  have THR : (((w.alloc (.cells #[.int .i64 0, .int .i64 0, .slice none 0 0, .slice none 0 0, .string ⟨#[]⟩, .slice none 0 0, .slice none 0 0, .int .i64 0, .int .i64 0, .slice none 0 0, .bool false, .slice none 0 0, .slice none 0 0] 26)).alloc (.cells #[.slice a xs.length c, .int .i64 0] 58)).alloc (.cells #[.int .i64 0, .int .i64 0, .slice none 0 0, .slice none 0 0, .string ⟨#[]⟩, .slice none 0 0, .slice none 0 0, .int .i64 0, .int .i64 0, .slice none 0 0, .bool false, .slice none 0 0, .slice none 0 0] 26)).there (w.heap.size + 1 + 1) 0 13 := PS.room w (.slice a xs.length c)
  obtain ⟨d13, hd13, hrow13⟩ := rowM
  have HR := hide hr
  clear hr
  go_enter Tryz.func19, Tryz.ntmps19
  go_upto_region 3 with (refine wpList_store_mid rfl 26 (.tmp 6) (.tmp 12) rfl (w.heap.size + 1 + 1) 0 #[.int .i64 24, .int .i64 0, .slice none 0 0, .slice none 0 0, .string ⟨#[]⟩, .slice none 0 0, .slice none 0 0, .int .i64 0, .int .i64 0, .slice none 0 0, .bool false, .slice none 0 0, .slice none 0 0] rfl rfl THR iM (all_oneCell_toArray fun v hv => by (simp only [List.mem_cons, List.not_mem_nil, or_false] at hv; rcases hv with rfl | rfl | rfl | rfl | rfl | rfl | rfl | rfl | rfl | rfl | rfl | rfl | rfl; all_goals rfl)) ?_)
  have PH := hide P0
  clear P0 THR
  generalize (((w.alloc (.cells #[.int .i64 0, .int .i64 0, .slice none 0 0, .slice none 0 0, .string ⟨#[]⟩, .slice none 0 0, .slice none 0 0, .int .i64 0, .int .i64 0, .slice none 0 0, .bool false, .slice none 0 0, .slice none 0 0] 26)).alloc (.cells #[.slice a xs.length c, .int .i64 0] 58)).alloc (.cells #[.int .i64 0, .int .i64 0, .slice none 0 0, .slice none 0 0, .string ⟨#[]⟩, .slice none 0 0, .slice none 0 0, .int .i64 0, .int .i64 0, .slice none 0 0, .bool false, .slice none 0 0, .slice none 0 0] 26)).setCells (w.heap.size + 1 + 1) 0 [.int .i64 24, .int .i64 0, .slice none 0 0, .slice none 0 0, .string ⟨#[]⟩, .slice none 0 0, .slice none 0 0, .int .i64 0, .int .i64 0, .slice none 0 0, .bool false, .slice none 0 0, .slice none 0 0] = W0 at *
  have NM := hide (numM_any W0 (w.heap.size + 1) g a c xs (0) 1 (HR.out.up PH.out.N) hb PH.out.Q (by omega) (by omega) (by decide))
  go_wp2_with fail
  refine NM.out.mono ?_
  rintro e V0 ⟨rfl, hQ, hT⟩
  have PV := hide (PH.out.call hQ hT)
  clear NM hQ hT PH
  have PH := PV
  clear PV
  have qT : V0.cell? ⟨w.heap.size + 1 + 1, 8, none⟩ = some (.int .i64 0) := PH.out.T.cell 8
  have qF := PH.out.T.free 8
  go_upto_region 39 with fail
  have PN : Hid (PS w (V0.setCell ⟨w.heap.size + 1 + 1, 8, none⟩ (.int .i64 (beN xs 0 1))) (.slice a xs.length c) _ [.int .i64 24, .int .i64 0, .slice none 0 0, .slice none 0 0, .string ⟨#[]⟩, .slice none 0 0, .slice none 0 0, .int .i64 0, .int .i64 (beN xs 0 1), .slice none 0 0, .bool false, .slice none 0 0, .slice none 0 0]) := PH.out.set 8 _
  clear qT qF PH
  generalize V0.setCell ⟨w.heap.size + 1 + 1, 8, none⟩ (.int .i64 (beN xs 0 1)) = W1 at *
  have PH := PN
  clear PN
  have RG := PH.out.T.rangeG
  have THR := PH.out.U.thereG
  have RR := World.rangeAt_setCells_same W1 w.heap.size 0 [.int .i64 24, .int .i64 0, .slice none 0 0, .slice none 0 0, .string ⟨#[]⟩, .slice none 0 0, .slice none 0 0, .int .i64 0, .int .i64 (beN xs 0 1), .slice none 0 0, .bool false, .slice none 0 0, .slice none 0 0] THR
  have OQ := only_setG W1 w.heap.size [.int .i64 24, .int .i64 0, .slice none 0 0, .slice none 0 0, .string ⟨#[]⟩, .slice none 0 0, .slice none 0 0, .int .i64 0, .int .i64 (beN xs 0 1), .slice none 0 0, .bool false, .slice none 0 0, .slice none 0 0] 0
  have N8 : Hid (Below w.heap.size w (W1.setCells w.heap.size 0 [.int .i64 24, .int .i64 0, .slice none 0 0, .slice none 0 0, .string ⟨#[]⟩, .slice none 0 0, .slice none 0 0, .int .i64 0, .int .i64 (beN xs 0 1), .slice none 0 0, .bool false, .slice none 0 0, .slice none 0 0])) := PH.out.N.trans (OQ.below (by omega))
  clear OQ PH
  have ON : ([.int .i64 24, .int .i64 0, .slice none 0 0, .slice none 0 0, .string ⟨#[]⟩, .slice none 0 0, .slice none 0 0, .int .i64 0, .int .i64 (beN xs 0 1), .slice none 0 0, .bool false, .slice none 0 0, .slice none 0 0] : List Value).toArray.all (·.oneCell') = true := all_oneCell_toArray fun v hv => by
    simp only [List.mem_cons, List.not_mem_nil, or_false] at hv
    rcases hv with rfl | rfl | rfl | rfl | rfl | rfl | rfl | rfl | rfl | rfl | rfl | rfl | rfl
    all_goals rfl
  have RES : Hid ((∃ p, Ending.returned (.agg #[.int .i64 24, .int .i64 0, .slice none 0 0, .slice none 0 0, .string ⟨#[]⟩, .slice none 0 0, .slice none 0 0, .int .i64 0, .int .i64 (beN xs 0 1), .slice none 0 0, .bool false, .slice none 0 0, .slice none 0 0]) = .returned (.agg (mgV p (rdUpdate xs))) ∧ HasM (W1.setCells w.heap.size 0 [.int .i64 24, .int .i64 0, .slice none 0 0, .slice none 0 0, .string ⟨#[]⟩, .slice none 0 0, .slice none 0 0, .int .i64 0, .int .i64 (beN xs 0 1), .slice none 0 0, .bool false, .slice none 0 0, .slice none 0 0]) p (rdUpdate xs) ∧ HasZ p (rdUpdate xs) ∧ TyM (W1.setCells w.heap.size 0 [.int .i64 24, .int .i64 0, .slice none 0 0, .slice none 0 0, .string ⟨#[]⟩, .slice none 0 0, .slice none 0 0, .int .i64 0, .int .i64 (beN xs 0 1), .slice none 0 0, .bool false, .slice none 0 0, .slice none 0 0]) p (rdUpdate xs) ∧ ∀ g, g < w.heap.size → NoM g p (rdUpdate xs)) ∧ Below w.heap.size w (W1.setCells w.heap.size 0 [.int .i64 24, .int .i64 0, .slice none 0 0, .slice none 0 0, .string ⟨#[]⟩, .slice none 0 0, .slice none 0 0, .int .i64 0, .int .i64 (beN xs 0 1), .slice none 0 0, .bool false, .slice none 0 0, .slice none 0 0])) := ⟨⟨⟨none, 0, 0, none, 0, 0, none, 0, 0, none, 0, 0, none, 0, 0, none, 0, 0, none, 0, 0, []⟩, rfl, ⟨rd0 _ _ _ _, rd0 _ _ _ _, rdT0 _ _ _, rd0 _ _ _ _, rd0 _ _ _ _, rdL0 _ _ _ _, rd0 _ _ _ _, Nat.zero_le _⟩, ⟨(fun _ => rfl), (fun _ => rfl), (fun _ => rfl), (fun _ => rfl), (fun _ => rfl), fun i hi => absurd hi (by simp [rdUpdate])⟩, ⟨fun h => absurd h (by simp [rdUpdate]), fun h => absurd h (by simp [rdUpdate])⟩, (fun g hg => ⟨(fun h => absurd h (by simp [rdUpdate])), (fun h => absurd h (by simp [rdUpdate])), (fun h => absurd h (by simp [rdUpdate])), (fun h => absurd h (by simp [rdUpdate])), (fun h => absurd h (by simp [rdUpdate])), (fun h => absurd h (by simp [rdUpdate])), (fun i h => absurd h (by simp [rdUpdate])), (fun h => absurd h (by simp [rdUpdate]))⟩)⟩, N8.out⟩
  clear N8
  go_wp2_with (first
    | (refine wpList_load_mid rfl 26 (.tmp 6) rfl (w.heap.size + 1 + 1) 0 rfl [.int .i64 24, .int .i64 0, .slice none 0 0, .slice none 0 0, .string ⟨#[]⟩, .slice none 0 0, .slice none 0 0, .int .i64 0, .int .i64 (beN xs 0 1), .slice none 0 0, .bool false, .slice none 0 0, .slice none 0 0] d13 RG hd13 hrow13 iM ?_)
    | (refine wpList_store_mid rfl 26 (.tmp 4) (.tmp 124) rfl w.heap.size 0 #[.int .i64 24, .int .i64 0, .slice none 0 0, .slice none 0 0, .string ⟨#[]⟩, .slice none 0 0, .slice none 0 0, .int .i64 0, .int .i64 (beN xs 0 1), .slice none 0 0, .bool false, .slice none 0 0, .slice none 0 0] rfl rfl THR iM ON ?_))
  exact bodyPost_ret (v := .agg #[.int .i64 24, .int .i64 0, .slice none 0 0, .slice none 0 0, .string ⟨#[]⟩, .slice none 0 0, .slice none 0 0, .int .i64 0, .int .i64 (beN xs 0 1), .slice none 0 0, .bool false, .slice none 0 0, .slice none 0 0]) (results_cellG Tryz.results19 _ _ w.heap.size _ d13 rfl RR hd13 hrow13 iM) rfl RES.out
end Go.Proofs.YtdnkgmlidhepbaaGreat
