import Derived.Test.YtdnkgmlidhepbaaGreatGC19
namespace Go.Proofs.YtdnkgmlidhepbaaGreat
open Go Go.RowKit
set_option maxRecDepth 100000 in
set_option maxHeartbeats 8000000 in
theorem parseEnd_any (w : World) (g : Nat) (a : Option Addr) (c : Nat) (xs : List Int) (hr : Rd w g a .u8 xs) (_hb : Byt xs) (_hx : xs.length ≤ 8192) :
    Calls Tryz.prog 19 #[.int .i64 5, .slice a xs.length c] w fun e w' => (∃ p, e = .returned (.agg (mgV p (rdEnd xs))) ∧ HasM w' p (rdEnd xs) ∧ HasZ p (rdEnd xs) ∧ TyM w' p (rdEnd xs) ∧ ∀ g, g < w.heap.size → NoM g p (rdEnd xs)) ∧ Below w.heap.size w w' := by
  have P0 : PS w ((((w.alloc (.cells #[.int .i64 0, .int .i64 0, .slice none 0 0, .slice none 0 0, .string ⟨#[]⟩, .slice none 0 0, .slice none 0 0, .int .i64 0, .int .i64 0, .slice none 0 0, .bool false, .slice none 0 0, .slice none 0 0] 26)).alloc (.cells #[.slice a xs.length c, .int .i64 0] 58)).alloc (.cells #[.int .i64 0, .int .i64 0, .slice none 0 0, .slice none 0 0, .string ⟨#[]⟩, .slice none 0 0, .slice none 0 0, .int .i64 0, .int .i64 0, .slice none 0 0, .bool false, .slice none 0 0, .slice none 0 0] 26)).setCells (w.heap.size + 1 + 1) 0 [.int .i64 5, .int .i64 0, .slice none 0 0, .slice none 0 0, .string ⟨#[]⟩, .slice none 0 0, .slice none 0 0, .int .i64 0, .int .i64 0, .slice none 0 0, .bool false, .slice none 0 0, .slice none 0 0]) (.slice a xs.length c) 0 [.int .i64 5, .int .i64 0, .slice none 0 0, .slice none 0 0, .string ⟨#[]⟩, .slice none 0 0, .slice none 0 0, .int .i64 0, .int .i64 0, .slice none 0 0, .bool false, .slice none 0 0, .slice none 0 0] := PS.start w (.slice a xs.length c) 5
  have THR : (((w.alloc (.cells #[.int .i64 0, .int .i64 0, .slice none 0 0, .slice none 0 0, .string ⟨#[]⟩, .slice none 0 0, .slice none 0 0, .int .i64 0, .int .i64 0, .slice none 0 0, .bool false, .slice none 0 0, .slice none 0 0] 26)).alloc (.cells #[.slice a xs.length c, .int .i64 0] 58)).alloc (.cells #[.int .i64 0, .int .i64 0, .slice none 0 0, .slice none 0 0, .string ⟨#[]⟩, .slice none 0 0, .slice none 0 0, .int .i64 0, .int .i64 0, .slice none 0 0, .bool false, .slice none 0 0, .slice none 0 0] 26)).there (w.heap.size + 1 + 1) 0 13 := PS.room w (.slice a xs.length c)
  obtain ⟨d13, hd13, hrow13⟩ := rowM
  have HR := hide hr
  clear hr
  go_enter Tryz.func19, Tryz.ntmps19
  go_upto_region 3 with (refine wpList_store_mid rfl 26 (.tmp 6) (.tmp 12) rfl (w.heap.size + 1 + 1) 0 #[.int .i64 5, .int .i64 0, .slice none 0 0, .slice none 0 0, .string ⟨#[]⟩, .slice none 0 0, .slice none 0 0, .int .i64 0, .int .i64 0, .slice none 0 0, .bool false, .slice none 0 0, .slice none 0 0] rfl rfl THR iM (all_oneCell_toArray fun v hv => by (simp only [List.mem_cons, List.not_mem_nil, or_false] at hv; rcases hv with rfl | rfl | rfl | rfl | rfl | rfl | rfl | rfl | rfl | rfl | rfl | rfl | rfl; all_goals rfl)) ?_)
  have PH := hide P0
  clear P0 THR
  generalize (((w.alloc (.cells #[.int .i64 0, .int .i64 0, .slice none 0 0, .slice none 0 0, .string ⟨#[]⟩, .slice none 0 0, .slice none 0 0, .int .i64 0, .int .i64 0, .slice none 0 0, .bool false, .slice none 0 0, .slice none 0 0] 26)).alloc (.cells #[.slice a xs.length c, .int .i64 0] 58)).alloc (.cells #[.int .i64 0, .int .i64 0, .slice none 0 0, .slice none 0 0, .string ⟨#[]⟩, .slice none 0 0, .slice none 0 0, .int .i64 0, .int .i64 0, .slice none 0 0, .bool false, .slice none 0 0, .slice none 0 0] 26)).setCells (w.heap.size + 1 + 1) 0 [.int .i64 5, .int .i64 0, .slice none 0 0, .slice none 0 0, .string ⟨#[]⟩, .slice none 0 0, .slice none 0 0, .int .i64 0, .int .i64 0, .slice none 0 0, .bool false, .slice none 0 0, .slice none 0 0] = W0 at *
  have RG := PH.out.T.rangeG
  have THR := PH.out.U.thereG
  have RR := World.rangeAt_setCells_same W0 w.heap.size 0 [.int .i64 5, .int .i64 0, .slice none 0 0, .slice none 0 0, .string ⟨#[]⟩, .slice none 0 0, .slice none 0 0, .int .i64 0, .int .i64 0, .slice none 0 0, .bool false, .slice none 0 0, .slice none 0 0] THR
  have OQ := only_setG W0 w.heap.size [.int .i64 5, .int .i64 0, .slice none 0 0, .slice none 0 0, .string ⟨#[]⟩, .slice none 0 0, .slice none 0 0, .int .i64 0, .int .i64 0, .slice none 0 0, .bool false, .slice none 0 0, .slice none 0 0] 0
  have N8 : Hid (Below w.heap.size w (W0.setCells w.heap.size 0 [.int .i64 5, .int .i64 0, .slice none 0 0, .slice none 0 0, .string ⟨#[]⟩, .slice none 0 0, .slice none 0 0, .int .i64 0, .int .i64 0, .slice none 0 0, .bool false, .slice none 0 0, .slice none 0 0])) := PH.out.N.trans (OQ.below (by omega))
  clear OQ PH
  have ON : ([.int .i64 5, .int .i64 0, .slice none 0 0, .slice none 0 0, .string ⟨#[]⟩, .slice none 0 0, .slice none 0 0, .int .i64 0, .int .i64 0, .slice none 0 0, .bool false, .slice none 0 0, .slice none 0 0] : List Value).toArray.all (·.oneCell') = true := all_oneCell_toArray fun v hv => by
    simp only [List.mem_cons, List.not_mem_nil, or_false] at hv
    rcases hv with rfl | rfl | rfl | rfl | rfl | rfl | rfl | rfl | rfl | rfl | rfl | rfl | rfl
    all_goals rfl
  have RES : Hid ((∃ p, Ending.returned (.agg #[.int .i64 5, .int .i64 0, .slice none 0 0, .slice none 0 0, .string ⟨#[]⟩, .slice none 0 0, .slice none 0 0, .int .i64 0, .int .i64 0, .slice none 0 0, .bool false, .slice none 0 0, .slice none 0 0]) = .returned (.agg (mgV p (rdEnd xs))) ∧ HasM (W0.setCells w.heap.size 0 [.int .i64 5, .int .i64 0, .slice none 0 0, .slice none 0 0, .string ⟨#[]⟩, .slice none 0 0, .slice none 0 0, .int .i64 0, .int .i64 0, .slice none 0 0, .bool false, .slice none 0 0, .slice none 0 0]) p (rdEnd xs) ∧ HasZ p (rdEnd xs) ∧ TyM (W0.setCells w.heap.size 0 [.int .i64 5, .int .i64 0, .slice none 0 0, .slice none 0 0, .string ⟨#[]⟩, .slice none 0 0, .slice none 0 0, .int .i64 0, .int .i64 0, .slice none 0 0, .bool false, .slice none 0 0, .slice none 0 0]) p (rdEnd xs) ∧ ∀ g, g < w.heap.size → NoM g p (rdEnd xs)) ∧ Below w.heap.size w (W0.setCells w.heap.size 0 [.int .i64 5, .int .i64 0, .slice none 0 0, .slice none 0 0, .string ⟨#[]⟩, .slice none 0 0, .slice none 0 0, .int .i64 0, .int .i64 0, .slice none 0 0, .bool false, .slice none 0 0, .slice none 0 0])) := ⟨⟨⟨none, 0, 0, none, 0, 0, none, 0, 0, none, 0, 0, none, 0, 0, none, 0, 0, none, 0, 0, []⟩, rfl, ⟨rd0 _ _ _ _, rd0 _ _ _ _, rdT0 _ _ _, rd0 _ _ _ _, rd0 _ _ _ _, rdL0 _ _ _ _, rd0 _ _ _ _, Nat.zero_le _⟩, ⟨(fun _ => rfl), (fun _ => rfl), (fun _ => rfl), (fun _ => rfl), (fun _ => rfl), fun i hi => absurd hi (by simp [rdEnd])⟩, ⟨fun h => absurd h (by simp [rdEnd]), fun h => absurd h (by simp [rdEnd])⟩, (fun g hg => ⟨(fun h => absurd h (by simp [rdEnd])), (fun h => absurd h (by simp [rdEnd])), (fun h => absurd h (by simp [rdEnd])), (fun h => absurd h (by simp [rdEnd])), (fun h => absurd h (by simp [rdEnd])), (fun h => absurd h (by simp [rdEnd])), (fun i h => absurd h (by simp [rdEnd])), (fun h => absurd h (by simp [rdEnd]))⟩)⟩, N8.out⟩
  clear N8
  go_wp2_with (first
    | (refine wpList_load_mid rfl 26 (.tmp 6) rfl (w.heap.size + 1 + 1) 0 rfl [.int .i64 5, .int .i64 0, .slice none 0 0, .slice none 0 0, .string ⟨#[]⟩, .slice none 0 0, .slice none 0 0, .int .i64 0, .int .i64 0, .slice none 0 0, .bool false, .slice none 0 0, .slice none 0 0] d13 RG hd13 hrow13 iM ?_)
    | (refine wpList_store_mid rfl 26 (.tmp 4) (.tmp 124) rfl w.heap.size 0 #[.int .i64 5, .int .i64 0, .slice none 0 0, .slice none 0 0, .string ⟨#[]⟩, .slice none 0 0, .slice none 0 0, .int .i64 0, .int .i64 0, .slice none 0 0, .bool false, .slice none 0 0, .slice none 0 0] rfl rfl THR iM ON ?_))
  exact bodyPost_ret (v := .agg #[.int .i64 5, .int .i64 0, .slice none 0 0, .slice none 0 0, .string ⟨#[]⟩, .slice none 0 0, .slice none 0 0, .int .i64 0, .int .i64 0, .slice none 0 0, .bool false, .slice none 0 0, .slice none 0 0]) (results_cellG Tryz.results19 _ _ w.heap.size _ d13 rfl RR hd13 hrow13 iM) rfl RES.out
end Go.Proofs.YtdnkgmlidhepbaaGreat
namespace Go.Proofs.YtdnkgmlidhepbaaGreat
open Go Go.RowKit
set_option maxRecDepth 100000 in
set_option maxHeartbeats 8000000 in
theorem parseFinished_any (w : World) (g : Nat) (a : Option Addr) (c : Nat) (xs : List Int) (hr : Rd w g a .u8 xs) (_hb : Byt xs) (hx : xs.length ≤ 8192) :
    Calls Tryz.prog 19 #[.int .i64 20, .slice a xs.length c] w fun e w' => (∃ p, e = .returned (.agg (mgV p (rdFinished xs))) ∧ HasM w' p (rdFinished xs) ∧ HasZ p (rdFinished xs) ∧ TyM w' p (rdFinished xs) ∧ ∀ g, g < w.heap.size → NoM g p (rdFinished xs)) ∧ Below w.heap.size w w' := by
  have P0 : PS w ((((w.alloc (.cells #[.int .i64 0, .int .i64 0, .slice none 0 0, .slice none 0 0, .string ⟨#[]⟩, .slice none 0 0, .slice none 0 0, .int .i64 0, .int .i64 0, .slice none 0 0, .bool false, .slice none 0 0, .slice none 0 0] 26)).alloc (.cells #[.slice a xs.length c, .int .i64 0] 58)).alloc (.cells #[.int .i64 0, .int .i64 0, .slice none 0 0, .slice none 0 0, .string ⟨#[]⟩, .slice none 0 0, .slice none 0 0, .int .i64 0, .int .i64 0, .slice none 0 0, .bool false, .slice none 0 0, .slice none 0 0] 26)).setCells (w.heap.size + 1 + 1) 0 [.int .i64 20, .int .i64 0, .slice none 0 0, .slice none 0 0, .string ⟨#[]⟩, .slice none 0 0, .slice none 0 0, .int .i64 0, .int .i64 0, .slice none 0 0, .bool false, .slice none 0 0, .slice none 0 0]) (.slice a xs.length c) 0 [.int .i64 20, .int .i64 0, .slice none 0 0, .slice none 0 0, .string ⟨#[]⟩, .slice none 0 0, .slice none 0 0, .int .i64 0, .int .i64 0, .slice none 0 0, .bool false, .slice none 0 0, .slice none 0 0] := PS.start w (.slice a xs.length c) 20
  have THR : (((w.alloc (.cells #[.int .i64 0, .int .i64 0, .slice none 0 0, .slice none 0 0, .string ⟨#[]⟩, .slice none 0 0, .slice none 0 0, .int .i64 0, .int .i64 0, .slice none 0 0, .bool false, .slice none 0 0, .slice none 0 0] 26)).alloc (.cells #[.slice a xs.length c, .int .i64 0] 58)).alloc (.cells #[.int .i64 0, .int .i64 0, .slice none 0 0, .slice none 0 0, .string ⟨#[]⟩, .slice none 0 0, .slice none 0 0, .int .i64 0, .int .i64 0, .slice none 0 0, .bool false, .slice none 0 0, .slice none 0 0] 26)).there (w.heap.size + 1 + 1) 0 13 := PS.room w (.slice a xs.length c)
  obtain ⟨d13, hd13, hrow13⟩ := rowM
  have HR := hide hr
  clear hr
  go_enter Tryz.func19, Tryz.ntmps19
  go_upto_region 3 with (refine wpList_store_mid rfl 26 (.tmp 6) (.tmp 12) rfl (w.heap.size + 1 + 1) 0 #[.int .i64 20, .int .i64 0, .slice none 0 0, .slice none 0 0, .string ⟨#[]⟩, .slice none 0 0, .slice none 0 0, .int .i64 0, .int .i64 0, .slice none 0 0, .bool false, .slice none 0 0, .slice none 0 0] rfl rfl THR iM (all_oneCell_toArray fun v hv => by (simp only [List.mem_cons, List.not_mem_nil, or_false] at hv; rcases hv with rfl | rfl | rfl | rfl | rfl | rfl | rfl | rfl | rfl | rfl | rfl | rfl | rfl; all_goals rfl)) ?_)
  have PH := hide P0
  clear P0 THR
  generalize (((w.alloc (.cells #[.int .i64 0, .int .i64 0, .slice none 0 0, .slice none 0 0, .string ⟨#[]⟩, .slice none 0 0, .slice none 0 0, .int .i64 0, .int .i64 0, .slice none 0 0, .bool false, .slice none 0 0, .slice none 0 0] 26)).alloc (.cells #[.slice a xs.length c, .int .i64 0] 58)).alloc (.cells #[.int .i64 0, .int .i64 0, .slice none 0 0, .slice none 0 0, .string ⟨#[]⟩, .slice none 0 0, .slice none 0 0, .int .i64 0, .int .i64 0, .slice none 0 0, .bool false, .slice none 0 0, .slice none 0 0] 26)).setCells (w.heap.size + 1 + 1) 0 [.int .i64 20, .int .i64 0, .slice none 0 0, .slice none 0 0, .string ⟨#[]⟩, .slice none 0 0, .slice none 0 0, .int .i64 0, .int .i64 0, .slice none 0 0, .bool false, .slice none 0 0, .slice none 0 0] = W0 at *
  have lt := PH.out.T.lt
  have NM := hide (takeM_any W0 (w.heap.size + 1) g a c xs (0) 32 (HR.out.up PH.out.N) PH.out.Q (by omega) (by omega) (by omega))
  go_wp2_with fail
  refine NM.out.mono ?_
  rintro e V0 ⟨rfl, B, hQ, hT⟩
  have PV := hide (PH.out.call hQ hT)
  obtain ⟨G12, hG⟩ : ∃ G, W0.heap.size = G := ⟨_, rfl⟩
  rw [hG] at B lt ⊢
  have CG12 : Hid (FB (w.heap.size + 1 + 1) V0 G12 (tkB xs (0) 32)) := ⟨B, lt⟩
  clear NM hQ hT PH B lt hG
  have PH := PV
  clear PV
  have qT : V0.cell? ⟨w.heap.size + 1 + 1, 12, none⟩ = some (.slice none 0 0) := PH.out.T.cell 12
  have qF := PH.out.T.free 12
  go_upto_region 39 with fail
  have PN : Hid (PS w (V0.setCell ⟨w.heap.size + 1 + 1, 12, none⟩ (.slice (some ⟨G12, 0, none⟩) 32 32)) (.slice a xs.length c) _ [.int .i64 20, .int .i64 0, .slice none 0 0, .slice none 0 0, .string ⟨#[]⟩, .slice none 0 0, .slice none 0 0, .int .i64 0, .int .i64 0, .slice none 0 0, .bool false, .slice none 0 0, .slice (some ⟨G12, 0, none⟩) 32 32]) := PH.out.set 12 _
  have CG12' := hide (CG12.out.onl (Only.setCell V0 (w.heap.size + 1 + 1) 12 (.slice (some ⟨G12, 0, none⟩) 32 32)) (Nat.le_refl _))
  clear CG12
  have CG12 := CG12'
  clear CG12'
  clear qT qF PH
  generalize V0.setCell ⟨w.heap.size + 1 + 1, 12, none⟩ (.slice (some ⟨G12, 0, none⟩) 32 32) = W1 at *
  have PH := PN
  clear PN
  have RG := PH.out.T.rangeG
  have THR := PH.out.U.thereG
  have RR := World.rangeAt_setCells_same W1 w.heap.size 0 [.int .i64 20, .int .i64 0, .slice none 0 0, .slice none 0 0, .string ⟨#[]⟩, .slice none 0 0, .slice none 0 0, .int .i64 0, .int .i64 0, .slice none 0 0, .bool false, .slice none 0 0, .slice (some ⟨G12, 0, none⟩) 32 32] THR
  have OQ := only_setG W1 w.heap.size [.int .i64 20, .int .i64 0, .slice none 0 0, .slice none 0 0, .string ⟨#[]⟩, .slice none 0 0, .slice none 0 0, .int .i64 0, .int .i64 0, .slice none 0 0, .bool false, .slice none 0 0, .slice (some ⟨G12, 0, none⟩) 32 32] 0
  have N8 : Hid (Below w.heap.size w (W1.setCells w.heap.size 0 [.int .i64 20, .int .i64 0, .slice none 0 0, .slice none 0 0, .string ⟨#[]⟩, .slice none 0 0, .slice none 0 0, .int .i64 0, .int .i64 0, .slice none 0 0, .bool false, .slice none 0 0, .slice (some ⟨G12, 0, none⟩) 32 32])) := PH.out.N.trans (OQ.below (by omega))
  have CG12' := hide (CG12.out.onl OQ (by omega))
  clear CG12
  have CG12 := CG12'
  clear CG12'
  clear OQ PH
  have ON : ([.int .i64 20, .int .i64 0, .slice none 0 0, .slice none 0 0, .string ⟨#[]⟩, .slice none 0 0, .slice none 0 0, .int .i64 0, .int .i64 0, .slice none 0 0, .bool false, .slice none 0 0, .slice (some ⟨G12, 0, none⟩) 32 32] : List Value).toArray.all (·.oneCell') = true := all_oneCell_toArray fun v hv => by
    simp only [List.mem_cons, List.not_mem_nil, or_false] at hv
    rcases hv with rfl | rfl | rfl | rfl | rfl | rfl | rfl | rfl | rfl | rfl | rfl | rfl | rfl
    all_goals rfl
  have RES : Hid ((∃ p, Ending.returned (.agg #[.int .i64 20, .int .i64 0, .slice none 0 0, .slice none 0 0, .string ⟨#[]⟩, .slice none 0 0, .slice none 0 0, .int .i64 0, .int .i64 0, .slice none 0 0, .bool false, .slice none 0 0, .slice (some ⟨G12, 0, none⟩) 32 32]) = .returned (.agg (mgV p (rdFinished xs))) ∧ HasM (W1.setCells w.heap.size 0 [.int .i64 20, .int .i64 0, .slice none 0 0, .slice none 0 0, .string ⟨#[]⟩, .slice none 0 0, .slice none 0 0, .int .i64 0, .int .i64 0, .slice none 0 0, .bool false, .slice none 0 0, .slice (some ⟨G12, 0, none⟩) 32 32]) p (rdFinished xs) ∧ HasZ p (rdFinished xs) ∧ TyM (W1.setCells w.heap.size 0 [.int .i64 20, .int .i64 0, .slice none 0 0, .slice none 0 0, .string ⟨#[]⟩, .slice none 0 0, .slice none 0 0, .int .i64 0, .int .i64 0, .slice none 0 0, .bool false, .slice none 0 0, .slice (some ⟨G12, 0, none⟩) 32 32]) p (rdFinished xs) ∧ ∀ g, g < w.heap.size → NoM g p (rdFinished xs)) ∧ Below w.heap.size w (W1.setCells w.heap.size 0 [.int .i64 20, .int .i64 0, .slice none 0 0, .slice none 0 0, .string ⟨#[]⟩, .slice none 0 0, .slice none 0 0, .int .i64 0, .int .i64 0, .slice none 0 0, .bool false, .slice none 0 0, .slice (some ⟨G12, 0, none⟩) 32 32])) := ⟨⟨⟨none, 0, 0, none, 0, 0, none, 0, 0, none, 0, 0, none, 0, 0, none, 0, 0, some ⟨G12, 0, none⟩, 32, G12, []⟩, by simp only [mgV, rdFinished, tkB_len, List.length_nil], ⟨rd0 _ _ _ _, rd0 _ _ _ _, rdT0 _ _ _, rd0 _ _ _ _, rd0 _ _ _ _, rdL0 _ _ _ _, CG12.out.1.own0.rd, Nat.zero_le _⟩, ⟨(fun _ => rfl), (fun _ => rfl), (fun _ => rfl), (fun _ => rfl), (fun h => by cases h), fun i hi => absurd hi (by simp [rdFinished])⟩, ⟨fun h => absurd h (by simp [rdFinished]), fun h => absurd h (by simp [rdFinished])⟩, (fun g hg => ⟨(fun h => absurd h (by simp [rdFinished])), (fun h => absurd h (by simp [rdFinished])), (fun h => absurd h (by simp [rdFinished])), (fun h => absurd h (by simp [rdFinished])), (fun h => absurd h (by simp [rdFinished])), (fun h => absurd h (by simp [rdFinished])), (fun i h => absurd h (by simp [rdFinished])), (fun _ => by have h2 := CG12.out.2; show G12 ≠ _; omega)⟩)⟩, N8.out⟩
  clear N8
  go_wp2_with (first
    | (refine wpList_load_mid rfl 26 (.tmp 6) rfl (w.heap.size + 1 + 1) 0 rfl [.int .i64 20, .int .i64 0, .slice none 0 0, .slice none 0 0, .string ⟨#[]⟩, .slice none 0 0, .slice none 0 0, .int .i64 0, .int .i64 0, .slice none 0 0, .bool false, .slice none 0 0, .slice (some ⟨G12, 0, none⟩) 32 32] d13 RG hd13 hrow13 iM ?_)
    | (refine wpList_store_mid rfl 26 (.tmp 4) (.tmp 124) rfl w.heap.size 0 #[.int .i64 20, .int .i64 0, .slice none 0 0, .slice none 0 0, .string ⟨#[]⟩, .slice none 0 0, .slice none 0 0, .int .i64 0, .int .i64 0, .slice none 0 0, .bool false, .slice none 0 0, .slice (some ⟨G12, 0, none⟩) 32 32] rfl rfl THR iM ON ?_))
  exact bodyPost_ret (v := .agg #[.int .i64 20, .int .i64 0, .slice none 0 0, .slice none 0 0, .string ⟨#[]⟩, .slice none 0 0, .slice none 0 0, .int .i64 0, .int .i64 0, .slice none 0 0, .bool false, .slice none 0 0, .slice (some ⟨G12, 0, none⟩) 32 32]) (results_cellG Tryz.results19 _ _ w.heap.size _ d13 rfl RR hd13 hrow13 iM) rfl RES.out
end Go.Proofs.YtdnkgmlidhepbaaGreat
