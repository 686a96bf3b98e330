import Derived.Test.YtmmbkkfjiaoeiaaGreatGV22
import Derived.Test.YtmmbkkfjiaoeiaaGreatGV10
namespace Go.Proofs.YtmmbkkfjiaoeiaaGreat
open Go Go.RowKit
set_option maxRecDepth 100000 in
set_option maxHeartbeats 8000000 in
theorem parseTicket_any (w : World) (g : Nat) (a : Option Addr) (c : Nat) (xs : List Int) (hr : Rd w g a .u8 xs) (hb : Byt xs) (hx : xs.length ≤ 8192) :
    Calls Tryz.prog 30 #[.int .i64 4, .slice a xs.length c] w fun e w' => (∃ p, e = .returned (.agg (mgV p (rdTicket xs))) ∧ HasM w' p (rdTicket xs) ∧ HasZ p (rdTicket xs) ∧ TyM w' p (rdTicket xs) ∧ ∀ g, g < w.heap.size → NoM g p (rdTicket xs)) ∧ Below w.heap.size w w' := by
  have P0 : PS w ((((w.alloc (.cells #[.int .i64 0, .int .i64 0, .slice none 0 0, .slice none 0 0, .string ⟨#[]⟩, .slice none 0 0, .slice none 0 0, .int .i64 0, .int .i64 0, .slice none 0 0, .bool false, .slice none 0 0, .slice none 0 0] 26)).alloc (.cells #[.slice a xs.length c, .int .i64 0] 105)).alloc (.cells #[.int .i64 0, .int .i64 0, .slice none 0 0, .slice none 0 0, .string ⟨#[]⟩, .slice none 0 0, .slice none 0 0, .int .i64 0, .int .i64 0, .slice none 0 0, .bool false, .slice none 0 0, .slice none 0 0] 26)).setCells (w.heap.size + 1 + 1) 0 [.int .i64 4, .int .i64 0, .slice none 0 0, .slice none 0 0, .string ⟨#[]⟩, .slice none 0 0, .slice none 0 0, .int .i64 0, .int .i64 0, .slice none 0 0, .bool false, .slice none 0 0, .slice none 0 0]) (.slice a xs.length c) 0 [.int .i64 4, .int .i64 0, .slice none 0 0, .slice none 0 0, .string ⟨#[]⟩, .slice none 0 0, .slice none 0 0, .int .i64 0, .int .i64 0, .slice none 0 0, .bool false, .slice none 0 0, .slice none 0 0] := PS.start w (.slice a xs.length c) 4
  have THR : (((w.alloc (.cells #[.int .i64 0, .int .i64 0, .slice none 0 0, .slice none 0 0, .string ⟨#[]⟩, .slice none 0 0, .slice none 0 0, .int .i64 0, .int .i64 0, .slice none 0 0, .bool false, .slice none 0 0, .slice none 0 0] 26)).alloc (.cells #[.slice a xs.length c, .int .i64 0] 105)).alloc (.cells #[.int .i64 0, .int .i64 0, .slice none 0 0, .slice none 0 0, .string ⟨#[]⟩, .slice none 0 0, .slice none 0 0, .int .i64 0, .int .i64 0, .slice none 0 0, .bool false, .slice none 0 0, .slice none 0 0] 26)).there (w.heap.size + 1 + 1) 0 13 := PS.room w (.slice a xs.length c)
  obtain ⟨d13, hd13, hrow13⟩ := rowM
  have HR := hide hr
  clear hr
  go_enter Tryz.func30, Tryz.ntmps30
  go_upto_region 3 with (refine wpList_store_mid rfl 26 (.tmp 6) (.tmp 12) rfl (w.heap.size + 1 + 1) 0 #[.int .i64 4, .int .i64 0, .slice none 0 0, .slice none 0 0, .string ⟨#[]⟩, .slice none 0 0, .slice none 0 0, .int .i64 0, .int .i64 0, .slice none 0 0, .bool false, .slice none 0 0, .slice none 0 0] rfl rfl THR iM (all_oneCell_toArray fun v hv => by (simp only [List.mem_cons, List.not_mem_nil, or_false] at hv; rcases hv with rfl | rfl | rfl | rfl | rfl | rfl | rfl | rfl | rfl | rfl | rfl | rfl | rfl; all_goals rfl)) ?_)
  have PH := hide P0
  clear P0 THR
  generalize (((w.alloc (.cells #[.int .i64 0, .int .i64 0, .slice none 0 0, .slice none 0 0, .string ⟨#[]⟩, .slice none 0 0, .slice none 0 0, .int .i64 0, .int .i64 0, .slice none 0 0, .bool false, .slice none 0 0, .slice none 0 0] 26)).alloc (.cells #[.slice a xs.length c, .int .i64 0] 105)).alloc (.cells #[.int .i64 0, .int .i64 0, .slice none 0 0, .slice none 0 0, .string ⟨#[]⟩, .slice none 0 0, .slice none 0 0, .int .i64 0, .int .i64 0, .slice none 0 0, .bool false, .slice none 0 0, .slice none 0 0] 26)).setCells (w.heap.size + 1 + 1) 0 [.int .i64 4, .int .i64 0, .slice none 0 0, .slice none 0 0, .string ⟨#[]⟩, .slice none 0 0, .slice none 0 0, .int .i64 0, .int .i64 0, .slice none 0 0, .bool false, .slice none 0 0, .slice none 0 0] = W0 at *
  have NM := hide (numM_any W0 (w.heap.size + 1) g a c xs (0) 4 (HR.out.up PH.out.N) hb PH.out.Q (by omega) (by omega) (by decide))
  go_wp2_with fail
  refine NM.out.mono ?_
  rintro e V0 ⟨rfl, hQ, hT⟩
  have PV := hide (PH.out.call hQ hT)
  clear NM hQ hT PH
  have PH := PV
  clear PV
  have qT : V0.cell? ⟨w.heap.size + 1 + 1, 7, none⟩ = some (.int .i64 0) := PH.out.T.cell 7
  have qF := PH.out.T.free 7
  go_upto_region 22 with fail
  have PN : Hid (PS w (V0.setCell ⟨w.heap.size + 1 + 1, 7, none⟩ (.int .i64 (beN xs 0 4))) (.slice a xs.length c) _ [.int .i64 4, .int .i64 0, .slice none 0 0, .slice none 0 0, .string ⟨#[]⟩, .slice none 0 0, .slice none 0 0, .int .i64 (beN xs 0 4), .int .i64 0, .slice none 0 0, .bool false, .slice none 0 0, .slice none 0 0]) := PH.out.set 7 _
  clear qT qF PH
  generalize V0.setCell ⟨w.heap.size + 1 + 1, 7, none⟩ (.int .i64 (beN xs 0 4)) = W1 at *
  have PH := PN
  clear PN
  have NM := hide (numM_any W1 (w.heap.size + 1) g a c xs (0 + 4) 4 (HR.out.up PH.out.N) hb PH.out.Q (by omega) (by omega) (by decide))
  go_wp2_with fail
  refine NM.out.mono ?_
  rintro e V2 ⟨rfl, hQ, hT⟩
  have PV := hide (PH.out.call hQ hT)
  clear NM hQ hT PH
  have PH := PV
  clear PV
  have qT : V2.cell? ⟨w.heap.size + 1 + 1, 8, none⟩ = some (.int .i64 0) := PH.out.T.cell 8
  have qF := PH.out.T.free 8
  go_upto_region 23 with fail
  have PN : Hid (PS w (V2.setCell ⟨w.heap.size + 1 + 1, 8, none⟩ (.int .i64 (beN xs (0 + 4) 4))) (.slice a xs.length c) _ [.int .i64 4, .int .i64 0, .slice none 0 0, .slice none 0 0, .string ⟨#[]⟩, .slice none 0 0, .slice none 0 0, .int .i64 (beN xs 0 4), .int .i64 (beN xs (0 + 4) 4), .slice none 0 0, .bool false, .slice none 0 0, .slice none 0 0]) := PH.out.set 8 _
  clear qT qF PH
  generalize V2.setCell ⟨w.heap.size + 1 + 1, 8, none⟩ (.int .i64 (beN xs (0 + 4) 4)) = W3 at *
  have PH := PN
  clear PN
  have lt := PH.out.T.lt
  have NM := hide (takeM_any W3 (w.heap.size + 1) g a c xs (0 + 4 + 4) 32 (HR.out.up PH.out.N) PH.out.Q (by omega) (by omega) (by omega))
  go_wp2_with fail
  refine NM.out.mono ?_
  rintro e V4 ⟨rfl, B, hQ, hT⟩
  have PV := hide (PH.out.call hQ hT)
  obtain ⟨G2, hG⟩ : ∃ G, W3.heap.size = G := ⟨_, rfl⟩
  rw [hG] at B lt ⊢
  have CG2 : Hid (FB (w.heap.size + 1 + 1) V4 G2 (tkB xs (0 + 4 + 4) 32)) := ⟨B, lt⟩
  clear NM hQ hT PH B lt hG
  have PH := PV
  clear PV
  have qT : V4.cell? ⟨w.heap.size + 1 + 1, 2, none⟩ = some (.slice none 0 0) := PH.out.T.cell 2
  have qF := PH.out.T.free 2
  go_upto_region 24 with fail
  have PN : Hid (PS w (V4.setCell ⟨w.heap.size + 1 + 1, 2, none⟩ (.slice (some ⟨G2, 0, none⟩) 32 32)) (.slice a xs.length c) _ [.int .i64 4, .int .i64 0, .slice (some ⟨G2, 0, none⟩) 32 32, .slice none 0 0, .string ⟨#[]⟩, .slice none 0 0, .slice none 0 0, .int .i64 (beN xs 0 4), .int .i64 (beN xs (0 + 4) 4), .slice none 0 0, .bool false, .slice none 0 0, .slice none 0 0]) := PH.out.set 2 _
  have CG2' := hide (CG2.out.onl (Only.setCell V4 (w.heap.size + 1 + 1) 2 (.slice (some ⟨G2, 0, none⟩) 32 32)) (Nat.le_refl _))
  clear CG2
  have CG2 := CG2'
  clear CG2'
  clear qT qF PH
  generalize V4.setCell ⟨w.heap.size + 1 + 1, 2, none⟩ (.slice (some ⟨G2, 0, none⟩) 32 32) = W5 at *
  have PH := PN
  clear PN
  obtain ⟨m, hm⟩ := Int.eq_ofNat_of_zero_le (be_byte hb 40 2 (by decide)).1
  have em : Hid ((beN xs 40 2).toNat = m) := by show _ = _; omega
  have mb := be2 hb 40
  rw [em.out] at mb
  have NM := hide (numM_any W5 (w.heap.size + 1) g a c xs (0 + 4 + 4 + 32) 2 (HR.out.up PH.out.N) hb PH.out.Q (by omega) (by omega) (by decide))
  rw [show (0 + 4 + 4 + 32 : Nat) = 40 from rfl, hm] at NM
  clear hm
  go_wp2_with fail
  refine NM.out.mono ?_
  rintro e V6 ⟨rfl, hQ, hT⟩
  have PV := hide (PH.out.call hQ hT)
  have CG2' := hide (CG2.out.tch hT (by omega))
  clear CG2
  have CG2 := CG2'
  clear CG2'
  clear NM hQ hT PH
  have PH := PV
  clear PV
  have lt := PH.out.T.lt
  have NM := hide (takeM_any V6 (w.heap.size + 1) g a c xs (40 + 2) m (HR.out.up PH.out.N) PH.out.Q (by omega) (by omega) (by omega))
  go_wp2_with fail
  refine NM.out.mono ?_
  rintro e V7 ⟨rfl, B, hQ, hT⟩
  have PV := hide (PH.out.call hQ hT)
  have CG2' := hide (CG2.out.tch hT (by omega))
  clear CG2
  have CG2 := CG2'
  clear CG2'
  obtain ⟨G6, hG⟩ : ∃ G, V6.heap.size = G := ⟨_, rfl⟩
  rw [hG] at B lt ⊢
  have CG6 : Hid (FB (w.heap.size + 1 + 1) V7 G6 (tkB xs (40 + 2) m)) := ⟨B, lt⟩
  clear NM hQ hT PH B lt hG
  have PH := PV
  clear PV
  have qT : V7.cell? ⟨w.heap.size + 1 + 1, 6, none⟩ = some (.slice none 0 0) := PH.out.T.cell 6
  have qF := PH.out.T.free 6
  go_upto_region 39 with fail
  have PN : Hid (PS w (V7.setCell ⟨w.heap.size + 1 + 1, 6, none⟩ (.slice (some ⟨G6, 0, none⟩) m m)) (.slice a xs.length c) _ [.int .i64 4, .int .i64 0, .slice (some ⟨G2, 0, none⟩) 32 32, .slice none 0 0, .string ⟨#[]⟩, .slice none 0 0, .slice (some ⟨G6, 0, none⟩) m m, .int .i64 (beN xs 0 4), .int .i64 (beN xs (0 + 4) 4), .slice none 0 0, .bool false, .slice none 0 0, .slice none 0 0]) := PH.out.set 6 _
  have CG2' := hide (CG2.out.onl (Only.setCell V7 (w.heap.size + 1 + 1) 6 (.slice (some ⟨G6, 0, none⟩) m m)) (Nat.le_refl _))
  clear CG2
  have CG2 := CG2'
  clear CG2'
  have CG6' := hide (CG6.out.onl (Only.setCell V7 (w.heap.size + 1 + 1) 6 (.slice (some ⟨G6, 0, none⟩) m m)) (Nat.le_refl _))
  clear CG6
  have CG6 := CG6'
  clear CG6'
  clear qT qF PH
  generalize V7.setCell ⟨w.heap.size + 1 + 1, 6, none⟩ (.slice (some ⟨G6, 0, none⟩) m m) = W8 at *
  have PH := PN
  clear PN
  have RG := PH.out.T.rangeG
  have THR := PH.out.U.thereG
  have RR := World.rangeAt_setCells_same W8 w.heap.size 0 [.int .i64 4, .int .i64 0, .slice (some ⟨G2, 0, none⟩) 32 32, .slice none 0 0, .string ⟨#[]⟩, .slice none 0 0, .slice (some ⟨G6, 0, none⟩) m m, .int .i64 (beN xs 0 4), .int .i64 (beN xs (0 + 4) 4), .slice none 0 0, .bool false, .slice none 0 0, .slice none 0 0] THR
  have OQ := only_setG W8 w.heap.size [.int .i64 4, .int .i64 0, .slice (some ⟨G2, 0, none⟩) 32 32, .slice none 0 0, .string ⟨#[]⟩, .slice none 0 0, .slice (some ⟨G6, 0, none⟩) m m, .int .i64 (beN xs 0 4), .int .i64 (beN xs (0 + 4) 4), .slice none 0 0, .bool false, .slice none 0 0, .slice none 0 0] 0
  have N8 : Hid (Below w.heap.size w (W8.setCells w.heap.size 0 [.int .i64 4, .int .i64 0, .slice (some ⟨G2, 0, none⟩) 32 32, .slice none 0 0, .string ⟨#[]⟩, .slice none 0 0, .slice (some ⟨G6, 0, none⟩) m m, .int .i64 (beN xs 0 4), .int .i64 (beN xs (0 + 4) 4), .slice none 0 0, .bool false, .slice none 0 0, .slice none 0 0])) := PH.out.N.trans (OQ.below (by omega))
  have CG2' := hide (CG2.out.onl OQ (by omega))
  clear CG2
  have CG2 := CG2'
  clear CG2'
  have CG6' := hide (CG6.out.onl OQ (by omega))
  clear CG6
  have CG6 := CG6'
  clear CG6'
  clear OQ PH
  have ON : ([.int .i64 4, .int .i64 0, .slice (some ⟨G2, 0, none⟩) 32 32, .slice none 0 0, .string ⟨#[]⟩, .slice none 0 0, .slice (some ⟨G6, 0, none⟩) m m, .int .i64 (beN xs 0 4), .int .i64 (beN xs (0 + 4) 4), .slice none 0 0, .bool false, .slice none 0 0, .slice none 0 0] : List Value).toArray.all (·.oneCell') = true := all_oneCell_toArray fun v hv => by
    simp only [List.mem_cons, List.not_mem_nil, or_false] at hv
    rcases hv with rfl | rfl | rfl | rfl | rfl | rfl | rfl | rfl | rfl | rfl | rfl | rfl | rfl
    all_goals rfl
  have RES : Hid ((∃ p, Ending.returned (.agg #[.int .i64 4, .int .i64 0, .slice (some ⟨G2, 0, none⟩) 32 32, .slice none 0 0, .string ⟨#[]⟩, .slice none 0 0, .slice (some ⟨G6, 0, none⟩) m m, .int .i64 (beN xs 0 4), .int .i64 (beN xs (0 + 4) 4), .slice none 0 0, .bool false, .slice none 0 0, .slice none 0 0]) = .returned (.agg (mgV p (rdTicket xs))) ∧ HasM (W8.setCells w.heap.size 0 [.int .i64 4, .int .i64 0, .slice (some ⟨G2, 0, none⟩) 32 32, .slice none 0 0, .string ⟨#[]⟩, .slice none 0 0, .slice (some ⟨G6, 0, none⟩) m m, .int .i64 (beN xs 0 4), .int .i64 (beN xs (0 + 4) 4), .slice none 0 0, .bool false, .slice none 0 0, .slice none 0 0]) p (rdTicket xs) ∧ HasZ p (rdTicket xs) ∧ TyM (W8.setCells w.heap.size 0 [.int .i64 4, .int .i64 0, .slice (some ⟨G2, 0, none⟩) 32 32, .slice none 0 0, .string ⟨#[]⟩, .slice none 0 0, .slice (some ⟨G6, 0, none⟩) m m, .int .i64 (beN xs 0 4), .int .i64 (beN xs (0 + 4) 4), .slice none 0 0, .bool false, .slice none 0 0, .slice none 0 0]) p (rdTicket xs) ∧ ∀ g, g < w.heap.size → NoM g p (rdTicket xs)) ∧ Below w.heap.size w (W8.setCells w.heap.size 0 [.int .i64 4, .int .i64 0, .slice (some ⟨G2, 0, none⟩) 32 32, .slice none 0 0, .string ⟨#[]⟩, .slice none 0 0, .slice (some ⟨G6, 0, none⟩) m m, .int .i64 (beN xs 0 4), .int .i64 (beN xs (0 + 4) 4), .slice none 0 0, .bool false, .slice none 0 0, .slice none 0 0])) := ⟨⟨⟨some ⟨G2, 0, none⟩, 32, G2, none, 0, 0, none, 0, 0, some ⟨G6, 0, none⟩, m, G6, none, 0, 0, none, 0, 0, none, 0, 0, []⟩, by simp only [mgV, rdTicket, tkB_len, List.length_nil, em.out], ⟨CG2.out.1.own0.rd, rd0 _ _ _ _, rdT0 _ _ _, (by show Rd _ _ _ _ (tkB xs 42 (beN xs 40 2).toNat); rw [em.out]; exact CG6.out.1.own0.rd), rd0 _ _ _ _, rdL0 _ _ _ _, rd0 _ _ _ _, Nat.zero_le _⟩, ⟨(fun h => by cases h), (fun _ => rfl), (fun h => by cases h), (fun _ => rfl), (fun _ => rfl), fun i hi => absurd hi (by simp [rdTicket])⟩, ⟨fun h => absurd h (by simp [rdTicket]), fun h => absurd h (by simp [rdTicket])⟩, (fun g hg => ⟨(fun _ => by have h2 := CG2.out.2; show G2 ≠ _; omega), (fun h => absurd h (by simp [rdTicket])), (fun h => absurd h (by simp [rdTicket])), (fun _ => by have h2 := CG6.out.2; show G6 ≠ _; omega), (fun h => absurd h (by simp [rdTicket])), (fun h => absurd h (by simp [rdTicket])), (fun i h => absurd h (by simp [rdTicket])), (fun h => absurd h (by simp [rdTicket]))⟩)⟩, N8.out⟩
  clear N8
  go_wp2_with (first
    | (refine wpList_load_mid rfl 26 (.tmp 6) rfl (w.heap.size + 1 + 1) 0 rfl [.int .i64 4, .int .i64 0, .slice (some ⟨G2, 0, none⟩) 32 32, .slice none 0 0, .string ⟨#[]⟩, .slice none 0 0, .slice (some ⟨G6, 0, none⟩) m m, .int .i64 (beN xs 0 4), .int .i64 (beN xs (0 + 4) 4), .slice none 0 0, .bool false, .slice none 0 0, .slice none 0 0] d13 RG hd13 hrow13 iM ?_)
    | (refine wpList_store_mid rfl 26 (.tmp 4) (.tmp 124) rfl w.heap.size 0 #[.int .i64 4, .int .i64 0, .slice (some ⟨G2, 0, none⟩) 32 32, .slice none 0 0, .string ⟨#[]⟩, .slice none 0 0, .slice (some ⟨G6, 0, none⟩) m m, .int .i64 (beN xs 0 4), .int .i64 (beN xs (0 + 4) 4), .slice none 0 0, .bool false, .slice none 0 0, .slice none 0 0] rfl rfl THR iM ON ?_))
  exact bodyPost_ret (v := .agg #[.int .i64 4, .int .i64 0, .slice (some ⟨G2, 0, none⟩) 32 32, .slice none 0 0, .string ⟨#[]⟩, .slice none 0 0, .slice (some ⟨G6, 0, none⟩) m m, .int .i64 (beN xs 0 4), .int .i64 (beN xs (0 + 4) 4), .slice none 0 0, .bool false, .slice none 0 0, .slice none 0 0]) (results_cellG Tryz.results30 _ _ w.heap.size _ d13 rfl RR hd13 hrow13 iM) rfl RES.out
end Go.Proofs.YtmmbkkfjiaoeiaaGreat
namespace Go.Proofs.YtmmbkkfjiaoeiaaGreat
open Go Go.RowKit
set_option maxRecDepth 100000 in
set_option maxHeartbeats 8000000 in
theorem parseUpdate_any (w : World) (g : Nat) (a : Option Addr) (c : Nat) (xs : List Int) (hr : Rd w g a .u8 xs) (hb : Byt xs) (hx : xs.length ≤ 8192) :
    Calls Tryz.prog 30 #[.int .i64 24, .slice a xs.length c] w fun e w' => (∃ p, e = .returned (.agg (mgV p (rdUpdate xs))) ∧ HasM w' p (rdUpdate xs) ∧ HasZ p (rdUpdate xs) ∧ TyM w' p (rdUpdate xs) ∧ ∀ g, g < w.heap.size → NoM g p (rdUpdate xs)) ∧ Below w.heap.size w w' := by
  have P0 : PS w ((((w.alloc (.cells #[.int .i64 0, .int .i64 0, .slice none 0 0, .slice none 0 0, .string ⟨#[]⟩, .slice none 0 0, .slice none 0 0, .int .i64 0, .int .i64 0, .slice none 0 0, .bool false, .slice none 0 0, .slice none 0 0] 26)).alloc (.cells #[.slice a xs.length c, .int .i64 0] 105)).alloc (.cells #[.int .i64 0, .int .i64 0, .slice none 0 0, .slice none 0 0, .string ⟨#[]⟩, .slice none 0 0, .slice none 0 0, .int .i64 0, .int .i64 0, .slice none 0 0, .bool false, .slice none 0 0, .slice none 0 0] 26)).setCells (w.heap.size + 1 + 1) 0 [.int .i64 24, .int .i64 0, .slice none 0 0, .slice none 0 0, .string ⟨#[]⟩, .slice none 0 0, .slice none 0 0, .int .i64 0, .int .i64 0, .slice none 0 0, .bool false, .slice none 0 0, .slice none 0 0]) (.slice a xs.length c) 0 [.int .i64 24, .int .i64 0, .slice none 0 0, .slice none 0 0, .string ⟨#[]⟩, .slice none 0 0, .slice none 0 0, .int .i64 0, .int .i64 0, .slice none 0 0, .bool false, .slice none 0 0, .slice none 0 0] := PS.start w (.slice a xs.length c) 24
  have THR : (((w.alloc (.cells #[.int .i64 0, .int .i64 0, .slice none 0 0, .slice none 0 0, .string ⟨#[]⟩, .slice none 0 0, .slice none 0 0, .int .i64 0, .int .i64 0, .slice none 0 0, .bool false, .slice none 0 0, .slice none 0 0] 26)).alloc (.cells #[.slice a xs.length c, .int .i64 0] 105)).alloc (.cells #[.int .i64 0, .int .i64 0, .slice none 0 0, .slice none 0 0, .string ⟨#[]⟩, .slice none 0 0, .slice none 0 0, .int .i64 0, .int .i64 0, .slice none 0 0, .bool false, .slice none 0 0, .slice none 0 0] 26)).there (w.heap.size + 1 + 1) 0 13 := PS.room w (.slice a xs.length c)
  obtain ⟨d13, hd13, hrow13⟩ := rowM
  have HR := hide hr
  clear hr
  go_enter Tryz.func30, Tryz.ntmps30
  go_upto_region 3 with (refine wpList_store_mid rfl 26 (.tmp 6) (.tmp 12) rfl (w.heap.size + 1 + 1) 0 #[.int .i64 24, .int .i64 0, .slice none 0 0, .slice none 0 0, .string ⟨#[]⟩, .slice none 0 0, .slice none 0 0, .int .i64 0, .int .i64 0, .slice none 0 0, .bool false, .slice none 0 0, .slice none 0 0] rfl rfl THR iM (all_oneCell_toArray fun v hv => by (simp only [List.mem_cons, List.not_mem_nil, or_false] at hv; rcases hv with rfl | rfl | rfl | rfl | rfl | rfl | rfl | rfl | rfl | rfl | rfl | rfl | rfl; all_goals rfl)) ?_)
  have PH := hide P0
  clear P0 THR
  generalize (((w.alloc (.cells #[.int .i64 0, .int .i64 0, .slice none 0 0, .slice none 0 0, .string ⟨#[]⟩, .slice none 0 0, .slice none 0 0, .int .i64 0, .int .i64 0, .slice none 0 0, .bool false, .slice none 0 0, .slice none 0 0] 26)).alloc (.cells #[.slice a xs.length c, .int .i64 0] 105)).alloc (.cells #[.int .i64 0, .int .i64 0, .slice none 0 0, .slice none 0 0, .string ⟨#[]⟩, .slice none 0 0, .slice none 0 0, .int .i64 0, .int .i64 0, .slice none 0 0, .bool false, .slice none 0 0, .slice none 0 0] 26)).setCells (w.heap.size + 1 + 1) 0 [.int .i64 24, .int .i64 0, .slice none 0 0, .slice none 0 0, .string ⟨#[]⟩, .slice none 0 0, .slice none 0 0, .int .i64 0, .int .i64 0, .slice none 0 0, .bool false, .slice none 0 0, .slice none 0 0] = W0 at *
  have NM := hide (numM_any W0 (w.heap.size + 1) g a c xs (0) 1 (HR.out.up PH.out.N) hb PH.out.Q (by omega) (by omega) (by decide))
  go_wp2_with fail
  refine NM.out.mono ?_
  rintro e V0 ⟨rfl, hQ, hT⟩
  have PV := hide (PH.out.call hQ hT)
  clear NM hQ hT PH
  have PH := PV
  clear PV
  have qT : V0.cell? ⟨w.heap.size + 1 + 1, 8, none⟩ = some (.int .i64 0) := PH.out.T.cell 8
  have qF := PH.out.T.free 8
  go_upto_region 39 with fail
  have PN : Hid (PS w (V0.setCell ⟨w.heap.size + 1 + 1, 8, none⟩ (.int .i64 (beN xs 0 1))) (.slice a xs.length c) _ [.int .i64 24, .int .i64 0, .slice none 0 0, .slice none 0 0, .string ⟨#[]⟩, .slice none 0 0, .slice none 0 0, .int .i64 0, .int .i64 (beN xs 0 1), .slice none 0 0, .bool false, .slice none 0 0, .slice none 0 0]) := PH.out.set 8 _
  clear qT qF PH
  generalize V0.setCell ⟨w.heap.size + 1 + 1, 8, none⟩ (.int .i64 (beN xs 0 1)) = W1 at *
  have PH := PN
  clear PN
  have RG := PH.out.T.rangeG
  have THR := PH.out.U.thereG
  have RR := World.rangeAt_setCells_same W1 w.heap.size 0 [.int .i64 24, .int .i64 0, .slice none 0 0, .slice none 0 0, .string ⟨#[]⟩, .slice none 0 0, .slice none 0 0, .int .i64 0, .int .i64 (beN xs 0 1), .slice none 0 0, .bool false, .slice none 0 0, .slice none 0 0] THR
  have OQ := only_setG W1 w.heap.size [.int .i64 24, .int .i64 0, .slice none 0 0, .slice none 0 0, .string ⟨#[]⟩, .slice none 0 0, .slice none 0 0, .int .i64 0, .int .i64 (beN xs 0 1), .slice none 0 0, .bool false, .slice none 0 0, .slice none 0 0] 0
  have N8 : Hid (Below w.heap.size w (W1.setCells w.heap.size 0 [.int .i64 24, .int .i64 0, .slice none 0 0, .slice none 0 0, .string ⟨#[]⟩, .slice none 0 0, .slice none 0 0, .int .i64 0, .int .i64 (beN xs 0 1), .slice none 0 0, .bool false, .slice none 0 0, .slice none 0 0])) := PH.out.N.trans (OQ.below (by omega))
  clear OQ PH
  have ON : ([.int .i64 24, .int .i64 0, .slice none 0 0, .slice none 0 0, .string ⟨#[]⟩, .slice none 0 0, .slice none 0 0, .int .i64 0, .int .i64 (beN xs 0 1), .slice none 0 0, .bool false, .slice none 0 0, .slice none 0 0] : List Value).toArray.all (·.oneCell') = true := all_oneCell_toArray fun v hv => by
    simp only [List.mem_cons, List.not_mem_nil, or_false] at hv
    rcases hv with rfl | rfl | rfl | rfl | rfl | rfl | rfl | rfl | rfl | rfl | rfl | rfl | rfl
    all_goals rfl
  have RES : Hid ((∃ p, Ending.returned (.agg #[.int .i64 24, .int .i64 0, .slice none 0 0, .slice none 0 0, .string ⟨#[]⟩, .slice none 0 0, .slice none 0 0, .int .i64 0, .int .i64 (beN xs 0 1), .slice none 0 0, .bool false, .slice none 0 0, .slice none 0 0]) = .returned (.agg (mgV p (rdUpdate xs))) ∧ HasM (W1.setCells w.heap.size 0 [.int .i64 24, .int .i64 0, .slice none 0 0, .slice none 0 0, .string ⟨#[]⟩, .slice none 0 0, .slice none 0 0, .int .i64 0, .int .i64 (beN xs 0 1), .slice none 0 0, .bool false, .slice none 0 0, .slice none 0 0]) p (rdUpdate xs) ∧ HasZ p (rdUpdate xs) ∧ TyM (W1.setCells w.heap.size 0 [.int .i64 24, .int .i64 0, .slice none 0 0, .slice none 0 0, .string ⟨#[]⟩, .slice none 0 0, .slice none 0 0, .int .i64 0, .int .i64 (beN xs 0 1), .slice none 0 0, .bool false, .slice none 0 0, .slice none 0 0]) p (rdUpdate xs) ∧ ∀ g, g < w.heap.size → NoM g p (rdUpdate xs)) ∧ Below w.heap.size w (W1.setCells w.heap.size 0 [.int .i64 24, .int .i64 0, .slice none 0 0, .slice none 0 0, .string ⟨#[]⟩, .slice none 0 0, .slice none 0 0, .int .i64 0, .int .i64 (beN xs 0 1), .slice none 0 0, .bool false, .slice none 0 0, .slice none 0 0])) := ⟨⟨⟨none, 0, 0, none, 0, 0, none, 0, 0, none, 0, 0, none, 0, 0, none, 0, 0, none, 0, 0, []⟩, rfl, ⟨rd0 _ _ _ _, rd0 _ _ _ _, rdT0 _ _ _, rd0 _ _ _ _, rd0 _ _ _ _, rdL0 _ _ _ _, rd0 _ _ _ _, Nat.zero_le _⟩, ⟨(fun _ => rfl), (fun _ => rfl), (fun _ => rfl), (fun _ => rfl), (fun _ => rfl), fun i hi => absurd hi (by simp [rdUpdate])⟩, ⟨fun h => absurd h (by simp [rdUpdate]), fun h => absurd h (by simp [rdUpdate])⟩, (fun g hg => ⟨(fun h => absurd h (by simp [rdUpdate])), (fun h => absurd h (by simp [rdUpdate])), (fun h => absurd h (by simp [rdUpdate])), (fun h => absurd h (by simp [rdUpdate])), (fun h => absurd h (by simp [rdUpdate])), (fun h => absurd h (by simp [rdUpdate])), (fun i h => absurd h (by simp [rdUpdate])), (fun h => absurd h (by simp [rdUpdate]))⟩)⟩, N8.out⟩
  clear N8
  go_wp2_with (first
    | (refine wpList_load_mid rfl 26 (.tmp 6) rfl (w.heap.size + 1 + 1) 0 rfl [.int .i64 24, .int .i64 0, .slice none 0 0, .slice none 0 0, .string ⟨#[]⟩, .slice none 0 0, .slice none 0 0, .int .i64 0, .int .i64 (beN xs 0 1), .slice none 0 0, .bool false, .slice none 0 0, .slice none 0 0] d13 RG hd13 hrow13 iM ?_)
    | (refine wpList_store_mid rfl 26 (.tmp 4) (.tmp 124) rfl w.heap.size 0 #[.int .i64 24, .int .i64 0, .slice none 0 0, .slice none 0 0, .string ⟨#[]⟩, .slice none 0 0, .slice none 0 0, .int .i64 0, .int .i64 (beN xs 0 1), .slice none 0 0, .bool false, .slice none 0 0, .slice none 0 0] rfl rfl THR iM ON ?_))
  exact bodyPost_ret (v := .agg #[.int .i64 24, .int .i64 0, .slice none 0 0, .slice none 0 0, .string ⟨#[]⟩, .slice none 0 0, .slice none 0 0, .int .i64 0, .int .i64 (beN xs 0 1), .slice none 0 0, .bool false, .slice none 0 0, .slice none 0 0]) (results_cellG Tryz.results30 _ _ w.heap.size _ d13 rfl RR hd13 hrow13 iM) rfl RES.out
end Go.Proofs.YtmmbkkfjiaoeiaaGreat
namespace Go.Proofs.YtmmbkkfjiaoeiaaGreat
open Go Go.RowKit
set_option maxRecDepth 100000 in
set_option maxHeartbeats 8000000 in
theorem parseExtras_any (w : World) (g : Nat) (a : Option Addr) (c : Nat) (xs : List Int) (hr : Rd w g a .u8 xs) (hb : Byt xs) (hx : xs.length ≤ 8192) :
    Calls Tryz.prog 30 #[.int .i64 8, .slice a xs.length c] w fun e w' => (∃ p, e = .returned (.agg (mgV p (rdExtras xs))) ∧ HasM w' p (rdExtras xs) ∧ HasZ p (rdExtras xs) ∧ TyM w' p (rdExtras xs) ∧ ∀ g, g < w.heap.size → NoM g p (rdExtras xs)) ∧ Below w.heap.size w w' := by
  have P0 : PS w ((((w.alloc (.cells #[.int .i64 0, .int .i64 0, .slice none 0 0, .slice none 0 0, .string ⟨#[]⟩, .slice none 0 0, .slice none 0 0, .int .i64 0, .int .i64 0, .slice none 0 0, .bool false, .slice none 0 0, .slice none 0 0] 26)).alloc (.cells #[.slice a xs.length c, .int .i64 0] 105)).alloc (.cells #[.int .i64 0, .int .i64 0, .slice none 0 0, .slice none 0 0, .string ⟨#[]⟩, .slice none 0 0, .slice none 0 0, .int .i64 0, .int .i64 0, .slice none 0 0, .bool false, .slice none 0 0, .slice none 0 0] 26)).setCells (w.heap.size + 1 + 1) 0 [.int .i64 8, .int .i64 0, .slice none 0 0, .slice none 0 0, .string ⟨#[]⟩, .slice none 0 0, .slice none 0 0, .int .i64 0, .int .i64 0, .slice none 0 0, .bool false, .slice none 0 0, .slice none 0 0]) (.slice a xs.length c) 0 [.int .i64 8, .int .i64 0, .slice none 0 0, .slice none 0 0, .string ⟨#[]⟩, .slice none 0 0, .slice none 0 0, .int .i64 0, .int .i64 0, .slice none 0 0, .bool false, .slice none 0 0, .slice none 0 0] := PS.start w (.slice a xs.length c) 8
  have THR : (((w.alloc (.cells #[.int .i64 0, .int .i64 0, .slice none 0 0, .slice none 0 0, .string ⟨#[]⟩, .slice none 0 0, .slice none 0 0, .int .i64 0, .int .i64 0, .slice none 0 0, .bool false, .slice none 0 0, .slice none 0 0] 26)).alloc (.cells #[.slice a xs.length c, .int .i64 0] 105)).alloc (.cells #[.int .i64 0, .int .i64 0, .slice none 0 0, .slice none 0 0, .string ⟨#[]⟩, .slice none 0 0, .slice none 0 0, .int .i64 0, .int .i64 0, .slice none 0 0, .bool false, .slice none 0 0, .slice none 0 0] 26)).there (w.heap.size + 1 + 1) 0 13 := PS.room w (.slice a xs.length c)
  obtain ⟨d13, hd13, hrow13⟩ := rowM
  have HR := hide hr
  clear hr
  go_enter Tryz.func30, Tryz.ntmps30
  go_upto_region 3 with (refine wpList_store_mid rfl 26 (.tmp 6) (.tmp 12) rfl (w.heap.size + 1 + 1) 0 #[.int .i64 8, .int .i64 0, .slice none 0 0, .slice none 0 0, .string ⟨#[]⟩, .slice none 0 0, .slice none 0 0, .int .i64 0, .int .i64 0, .slice none 0 0, .bool false, .slice none 0 0, .slice none 0 0] rfl rfl THR iM (all_oneCell_toArray fun v hv => by (simp only [List.mem_cons, List.not_mem_nil, or_false] at hv; rcases hv with rfl | rfl | rfl | rfl | rfl | rfl | rfl | rfl | rfl | rfl | rfl | rfl | rfl; all_goals rfl)) ?_)
  have PH := hide P0
  clear P0 THR
  generalize (((w.alloc (.cells #[.int .i64 0, .int .i64 0, .slice none 0 0, .slice none 0 0, .string ⟨#[]⟩, .slice none 0 0, .slice none 0 0, .int .i64 0, .int .i64 0, .slice none 0 0, .bool false, .slice none 0 0, .slice none 0 0] 26)).alloc (.cells #[.slice a xs.length c, .int .i64 0] 105)).alloc (.cells #[.int .i64 0, .int .i64 0, .slice none 0 0, .slice none 0 0, .string ⟨#[]⟩, .slice none 0 0, .slice none 0 0, .int .i64 0, .int .i64 0, .slice none 0 0, .bool false, .slice none 0 0, .slice none 0 0] 26)).setCells (w.heap.size + 1 + 1) 0 [.int .i64 8, .int .i64 0, .slice none 0 0, .slice none 0 0, .string ⟨#[]⟩, .slice none 0 0, .slice none 0 0, .int .i64 0, .int .i64 0, .slice none 0 0, .bool false, .slice none 0 0, .slice none 0 0] = W0 at *
  have lt := PH.out.T.lt
  have NM := hide (takeListM_any W0 (w.heap.size + 1) g a c xs (0) (HR.out.up PH.out.N) hb PH.out.Q (fun h => by have := HR.out.lt h; omega) (by omega) (by omega))
  go_wp2_with fail
  refine NM.out.mono ?_
  rintro e V0 ⟨⟨v, rfl, RT⟩, hQ, hT⟩
  have PV := hide (PH.out.call hQ hT)
  obtain ⟨ra, rl, rc, hrv⟩ : ∃ ra rl rc, v = .slice ra rl rc := by
    rcases RT.2 with ⟨h', _⟩ | ⟨g', cap, cur, h', _⟩
    · exact ⟨_, _, _, h'⟩
    · exact ⟨_, _, _, h'⟩
  subst hrv
  have CR : Hid (FR (w.heap.size + 1 + 1) V0 (.slice ra rl rc) (txT xs (0 + 1) (xs.getD (0) 0).toNat)) := RowT.base' RT (by omega)
  clear NM hQ hT PH lt RT
  have PH := PV
  clear PV
  have qT : V0.cell? ⟨w.heap.size + 1 + 1, 5, none⟩ = some (.slice none 0 0) := PH.out.T.cell 5
  have qF := PH.out.T.free 5
  go_upto_region 27 with fail
  have PN : Hid (PS w (V0.setCell ⟨w.heap.size + 1 + 1, 5, none⟩ (.slice ra rl rc)) (.slice a xs.length c) _ [.int .i64 8, .int .i64 0, .slice none 0 0, .slice none 0 0, .string ⟨#[]⟩, .slice ra rl rc, .slice none 0 0, .int .i64 0, .int .i64 0, .slice none 0 0, .bool false, .slice none 0 0, .slice none 0 0]) := PH.out.set 5 _
  have CR' := hide (CR.out.onl (Only.setCell V0 (w.heap.size + 1 + 1) 5 (.slice ra rl rc)) (Nat.le_refl _))
  clear CR
  have CR := CR'
  clear CR'
  clear qT qF PH
  generalize V0.setCell ⟨w.heap.size + 1 + 1, 5, none⟩ (.slice ra rl rc) = W1 at *
  have PH := PN
  clear PN
  have PB := ppT_bd hb 1 (xs.getD 0 0).toNat
  have nb := bx1 hb 0
  rw [show (0 + 1 : Nat) = 1 from rfl] at PH CR
  obtain ⟨pp, hpp⟩ : ∃ n, Hid (ppT xs 1 (xs.getD 0 0).toNat = n) := ⟨_, rfl⟩
  obtain ⟨tt, htt⟩ : ∃ n, Hid (txT xs 1 (xs.getD 0 0).toNat = n) := ⟨_, rfl⟩
  rw [hpp.out] at PB PH
  rw [htt.out] at CR
  have NM := hide (numM_any W1 (w.heap.size + 1) g a c xs (pp) 1 (HR.out.up PH.out.N) hb PH.out.Q (by omega) (by omega) (by decide))
  go_wp2_with fail
  refine NM.out.mono ?_
  rintro e V2 ⟨rfl, hQ, hT⟩
  have PV := hide (PH.out.call hQ hT)
  have CR' := hide (CR.out.tch hT (by omega))
  clear CR
  have CR := CR'
  clear CR'
  clear NM hQ hT PH
  have PH := PV
  clear PV
  obtain ⟨ev, hev⟩ : ∃ n, Hid (beN xs pp 1 = n) := ⟨_, rfl⟩
  rw [hev.out]
  have qT : V2.cell? ⟨w.heap.size + 1 + 1, 8, none⟩ = some (.int .i64 0) := PH.out.T.cell 8
  have qF := PH.out.T.free 8
  go_upto_region 39 with fail
  have PN : Hid (PS w (V2.setCell ⟨w.heap.size + 1 + 1, 8, none⟩ (.int .i64 ev)) (.slice a xs.length c) _ [.int .i64 8, .int .i64 0, .slice none 0 0, .slice none 0 0, .string ⟨#[]⟩, .slice ra rl rc, .slice none 0 0, .int .i64 0, .int .i64 ev, .slice none 0 0, .bool false, .slice none 0 0, .slice none 0 0]) := PH.out.set 8 _
  have CR' := hide (CR.out.onl (Only.setCell V2 (w.heap.size + 1 + 1) 8 (.int .i64 ev)) (Nat.le_refl _))
  clear CR
  have CR := CR'
  clear CR'
  clear qT qF PH
  generalize V2.setCell ⟨w.heap.size + 1 + 1, 8, none⟩ (.int .i64 ev) = W3 at *
  have PH := PN
  clear PN
  have RG := PH.out.T.rangeG
  have THR := PH.out.U.thereG
  have RR := World.rangeAt_setCells_same W3 w.heap.size 0 [.int .i64 8, .int .i64 0, .slice none 0 0, .slice none 0 0, .string ⟨#[]⟩, .slice ra rl rc, .slice none 0 0, .int .i64 0, .int .i64 ev, .slice none 0 0, .bool false, .slice none 0 0, .slice none 0 0] THR
  have OQ := only_setG W3 w.heap.size [.int .i64 8, .int .i64 0, .slice none 0 0, .slice none 0 0, .string ⟨#[]⟩, .slice ra rl rc, .slice none 0 0, .int .i64 0, .int .i64 ev, .slice none 0 0, .bool false, .slice none 0 0, .slice none 0 0] 0
  have N8 : Hid (Below w.heap.size w (W3.setCells w.heap.size 0 [.int .i64 8, .int .i64 0, .slice none 0 0, .slice none 0 0, .string ⟨#[]⟩, .slice ra rl rc, .slice none 0 0, .int .i64 0, .int .i64 ev, .slice none 0 0, .bool false, .slice none 0 0, .slice none 0 0])) := PH.out.N.trans (OQ.below (by omega))
  have CR' := hide (CR.out.onl OQ (by omega))
  clear CR
  have CR := CR'
  clear CR'
  clear OQ PH
  have ON : ([.int .i64 8, .int .i64 0, .slice none 0 0, .slice none 0 0, .string ⟨#[]⟩, .slice ra rl rc, .slice none 0 0, .int .i64 0, .int .i64 ev, .slice none 0 0, .bool false, .slice none 0 0, .slice none 0 0] : List Value).toArray.all (·.oneCell') = true := all_oneCell_toArray fun v hv => by
    simp only [List.mem_cons, List.not_mem_nil, or_false] at hv
    rcases hv with rfl | rfl | rfl | rfl | rfl | rfl | rfl | rfl | rfl | rfl | rfl | rfl | rfl
    all_goals rfl
  obtain ⟨hl, hcc, hzz, gr, hrd, hty⟩ := RowT.rdT CR.out
  have RES : Hid ((∃ p, Ending.returned (.agg #[.int .i64 8, .int .i64 0, .slice none 0 0, .slice none 0 0, .string ⟨#[]⟩, .slice ra rl rc, .slice none 0 0, .int .i64 0, .int .i64 ev, .slice none 0 0, .bool false, .slice none 0 0, .slice none 0 0]) = .returned (.agg (mgV p (rdExtras xs))) ∧ HasM (W3.setCells w.heap.size 0 [.int .i64 8, .int .i64 0, .slice none 0 0, .slice none 0 0, .string ⟨#[]⟩, .slice ra rl rc, .slice none 0 0, .int .i64 0, .int .i64 ev, .slice none 0 0, .bool false, .slice none 0 0, .slice none 0 0]) p (rdExtras xs) ∧ HasZ p (rdExtras xs) ∧ TyM (W3.setCells w.heap.size 0 [.int .i64 8, .int .i64 0, .slice none 0 0, .slice none 0 0, .string ⟨#[]⟩, .slice ra rl rc, .slice none 0 0, .int .i64 0, .int .i64 ev, .slice none 0 0, .bool false, .slice none 0 0, .slice none 0 0]) p (rdExtras xs) ∧ ∀ g, g < w.heap.size → NoM g p (rdExtras xs)) ∧ Below w.heap.size w (W3.setCells w.heap.size 0 [.int .i64 8, .int .i64 0, .slice none 0 0, .slice none 0 0, .string ⟨#[]⟩, .slice ra rl rc, .slice none 0 0, .int .i64 0, .int .i64 ev, .slice none 0 0, .bool false, .slice none 0 0, .slice none 0 0])) := ⟨⟨⟨none, 0, 0, none, 0, 0, ra, rc, gr, none, 0, 0, none, 0, 0, none, 0, 0, none, 0, 0, []⟩, (by rw [hl]; simp only [mgV, rdExtras, List.length_nil, hpp.out, htt.out, hev.out]), ⟨rd0 _ _ _ _, rd0 _ _ _ _, (by show RdT _ _ _ (txT xs 1 (xs.getD 0 0).toNat); rw [htt.out]; exact hrd), rd0 _ _ _ _, rd0 _ _ _ _, rdL0 _ _ _ _, rd0 _ _ _ _, (by show (txT xs 1 (xs.getD 0 0).toNat).length ≤ _; rw [htt.out]; exact hcc)⟩, ⟨(fun _ => rfl), (fun _ => rfl), (fun _ => rfl), (fun _ => rfl), (fun _ => rfl), fun i hi => absurd hi (by simp [rdExtras])⟩, ⟨fun h => (hty (by rw [← htt.out]; exact h)).1, fun h => absurd h (by simp [rdExtras])⟩, (fun g hg => ⟨(fun h => absurd h (by simp [rdExtras])), (fun h => absurd h (by simp [rdExtras])), (fun h => by have h2 := (hty (by rw [← htt.out]; exact h)).2; show gr ≠ _; omega), (fun h => absurd h (by simp [rdExtras])), (fun h => absurd h (by simp [rdExtras])), (fun h => absurd h (by simp [rdExtras])), (fun i h => absurd h (by simp [rdExtras])), (fun h => absurd h (by simp [rdExtras]))⟩)⟩, N8.out⟩
  clear N8
  clear hl hcc hzz hrd hty
  go_wp2_with (first
    | (refine wpList_load_mid rfl 26 (.tmp 6) rfl (w.heap.size + 1 + 1) 0 rfl [.int .i64 8, .int .i64 0, .slice none 0 0, .slice none 0 0, .string ⟨#[]⟩, .slice ra rl rc, .slice none 0 0, .int .i64 0, .int .i64 ev, .slice none 0 0, .bool false, .slice none 0 0, .slice none 0 0] d13 RG hd13 hrow13 iM ?_)
    | (refine wpList_store_mid rfl 26 (.tmp 4) (.tmp 124) rfl w.heap.size 0 #[.int .i64 8, .int .i64 0, .slice none 0 0, .slice none 0 0, .string ⟨#[]⟩, .slice ra rl rc, .slice none 0 0, .int .i64 0, .int .i64 ev, .slice none 0 0, .bool false, .slice none 0 0, .slice none 0 0] rfl rfl THR iM ON ?_))
  exact bodyPost_ret (v := .agg #[.int .i64 8, .int .i64 0, .slice none 0 0, .slice none 0 0, .string ⟨#[]⟩, .slice ra rl rc, .slice none 0 0, .int .i64 0, .int .i64 ev, .slice none 0 0, .bool false, .slice none 0 0, .slice none 0 0]) (results_cellG Tryz.results30 _ _ w.heap.size _ d13 rfl RR hd13 hrow13 iM) rfl RES.out
end Go.Proofs.YtmmbkkfjiaoeiaaGreat
namespace Go.Proofs.YtmmbkkfjiaoeiaaGreat
open Go Go.RowKit
section
variable {P : Program} {ops : Array Oper} {Q : Exit → Act → World → Prop} {md : Region.Mode} {F : Nat → Fact} {a0 : Act} {w0 : World}
def textEnd (md : Region.Mode) (ops : Array Oper) (n : Nat) : Bool :=
  (ops.all fun o => match o.dst with | some d => decide (d < n) | none => true)
  && ((List.range ops.size).all fun i => match ops[i]? with
    | some o => o.after.all (fun e => !Region.binds md e || decide (e.on < i)) && (List.range i).all fun j => match ops[j]? with
      | some x => x.dst.isNone || o.dst != x.dst
      | none => true
    | none => true)
structure TextE (md : Region.Mode) (ops : Array Oper) (n : Nat) : Prop where
  d : ∀ (i : Nat) o d, ops[i]? = some o → o.dst = some d → d < n
  a : ∀ (i : Nat) o, ops[i]? = some o → ∀ e ∈ o.after, Region.binds md e = true → e.on < i
  x : ∀ (i j : Nat) o o' d, ops[i]? = some o → ops[j]? = some o' → i ≠ j → o.dst = some d → o'.dst ≠ some d
theorem textE_of {n : Nat} (h : textEnd md ops n = true) : TextE md ops n := by
  unfold textEnd at h
  simp only [Bool.and_eq_true] at h
  obtain ⟨h1, h2⟩ := h
  rw [Array.all_eq_true_iff_forall_mem] at h1
  rw [List.all_eq_true] at h2
  have H : ∀ (i j : Nat) o o' d, j < i → ops[i]? = some o → ops[j]? = some o' → o.dst = some d → o'.dst ≠ some d := by
    intro i j o o' d hij hi hj hd hd'
    have q := h2 i (List.mem_range.2 (Array.getElem?_eq_some_iff.1 hi).1)
    simp only [hi, Bool.and_eq_true] at q
    have r := List.all_eq_true.1 q.2 j (List.mem_range.2 hij)
    simp only [hj, hd, hd'] at r
    simp at r
  refine ⟨?_, ?_, ?_⟩
  · intro i o d ho hd
    have q := h1 o (Array.mem_of_getElem? ho)
    simpa [hd] using q
  · intro i o ho e he hb
    have q := h2 i (List.mem_range.2 (Array.getElem?_eq_some_iff.1 ho).1)
    simp only [ho, Bool.and_eq_true] at q
    have r := (Array.all_eq_true_iff_forall_mem.1 q.1) e he
    rw [hb] at r
    simpa using r
  · intro i j o o' d hi hj hij hd hd'
    rcases Nat.lt_or_gt_of_ne hij with h | h
    · exact H j i o' o d h hj hi hd' hd
    · exact H i j o o' d h hi hj hd hd'
theorem Held.nextE {n : Nat} (T : TextE md ops n) (hn : n ≤ a0.tmps.size) {listed : Array Bool} {a : Act} {w : World} (H : Held md ops F a0 w0 listed a w) {i : Nat} {o : Oper} (ho : ops[i]? = some o) (hr : i ∈ Region.ready md ops listed)
    {v : Value} {w' : World} (hw : Below w.heap.size w w') (hf : (F i).p v w') : Held md ops F a0 w0 (listed.setIfInBounds i true) (a.put o.dst v) w' := by
  have hi : i < ops.size := (Array.getElem?_eq_some_iff.1 ho).1
  have hz : a.tmps.size = a0.tmps.size := H.b.2.1
  refine ⟨⟨by rw [put_defers]; exact H.b.1, by rw [put_size]; exact hz, fun d hd => ?_⟩, nxt H.n hw, ?_, ?_, by simp [H.s]⟩
  · rw [put_off]
    · exact H.b.2.2 d hd
    · have q := Array.all_eq_true_iff_forall_mem.1 hd o (Array.mem_of_getElem? ho)
      simpa using q
  · intro j oj d hoj hj hd
    by_cases e : i = j
    · subst e
      obtain rfl := Option.some.inj (ho.symm.trans hoj)
      rw [hd, put_at (Nat.lt_of_lt_of_le (T.d i o d ho hd) (hz ▸ hn))]
      exact hf
    · rw [getD_off e] at hj
      rw [put_off (T.x j i oj o d hoj ho (Ne.symm e) hd)]
      exact (F j).up hw (H.f j oj d hoj hj hd)
  · intro j oj hoj hj e he hb
    obtain ⟨_, o', ho', q⟩ := mem_ready.1 hr
    by_cases c : i = e.on
    · rw [← c]
      exact getD_same (by rw [H.s]; exact hi) _
    · rw [getD_off c]
      by_cases e' : i = j
      · subst e'
        obtain rfl := Option.some.inj (ho'.symm.trans hoj)
        exact q e he hb
      · rw [getD_off e'] at hj
        exact H.c j oj hoj hj e he hb
theorem any_end {n : Nat} (T : TextE md ops n) (hn : n ≤ a0.tmps.size) (steps : ∀ i, i < ops.size → StepOk P md ops Q F a0 w0 i)
    (hg : ∀ i o, ops[i]? = some o → ∀ (a : Act) (w : World), (∀ j d, waits md ops i j d = true → (F j).p (a.tmps.getD d undef) w) → Region.wanted o (yielded ops a.tmps) = true)
    (fin : ∀ a w, Based ops a0 a → Below w0.heap.size w0 w → (∀ i o d, ops[i]? = some o → o.dst = some d → (F i).p (a.tmps.getD d undef) w) → Q .normal a w) :
    ∀ (fuel : Nat) (listed : Array Bool) (a : Act) (w : World), left listed ops.size ≤ fuel → Held md ops F a0 w0 listed a w → wpAny P md ops Q fuel listed a w := by
  have done : ∀ (fuel : Nat) (listed : Array Bool) (a : Act) (w : World), Held md ops F a0 w0 listed a w → (∀ i, i < ops.size → listed.getD i false = true) → wpAny P md ops Q fuel listed a w := by
    intro fuel listed a w H hall
    refine wpAny_done ?_ (fin a w H.b H.n (fun i o d ho hd => H.f i o d ho (hall i (Array.getElem?_eq_some_iff.1 ho).1) hd)) fuel
    cases hr : Region.ready md ops listed with
    | nil => rfl
    | cons i t =>
      exfalso
      have hi : i ∈ Region.ready md ops listed := by rw [hr]; simp
      obtain ⟨h0, o, ho, _⟩ := mem_ready.1 hi
      have hlt := (Array.getElem?_eq_some_iff.1 ho).1
      rw [dflt (by rw [H.s]; exact hlt), hall i hlt] at h0
      simp at h0
  intro fuel
  induction fuel with
  | zero =>
    intro listed a w hl H
    exact done 0 listed a w H fun i hi => by
      rw [← dflt (by rw [H.s]; exact hi)]
      exact left_zero (n := ops.size) (by omega) i hi
  | succ fuel ih =>
    intro listed a w hl H
    by_cases hall : ∀ i, i < ops.size → listed.getD i false = true
    · exact done _ listed a w H hall
    · refine ⟨fun hr => ?_, fun i hi => ?_⟩
      · exfalso
        refine hall fun j hj => ?_
        have : ∀ m i, i < m → i < ops.size → listed.getD i false = true := by
          intro m
          induction m with
          | zero => intro i hi; omega
          | succ m ihm =>
            intro i hi hik
            rcases Nat.lt_or_ge i m with h1 | h1
            · exact ihm i h1 hik
            · obtain rfl : i = m := by omega
              cases hc : listed.getD i false
              · exfalso
                obtain ⟨o, ho⟩ : ∃ o, ops[i]? = some o := ⟨ops[i], by simp [hik]⟩
                have hr' : i ∈ Region.ready md ops listed := mem_ready.2 ⟨by rw [dflt (by rw [H.s]; omega)]; exact hc, o, ho, fun e he hb => ihm e.on (T.a i o ho e he hb) (by have := T.a i o ho e he hb; omega)⟩
                rw [hr] at hr'
                simp at hr'
              · rfl
        exact this (j + 1) j (by omega) hj
      · obtain ⟨h0, o, ho, hready⟩ := mem_ready.1 hi
        have hlt := (Array.getElem?_eq_some_iff.1 ho).1
        have hfacts : ∀ j d, waits md ops i j d = true → (F j).p (a.tmps.getD d undef) w := by
          intro j d hjd
          unfold waits at hjd
          rw [ho] at hjd
          cases hoj : ops[j]? with
          | none => rw [hoj] at hjd; simp at hjd
          | some oj =>
            rw [hoj] at hjd
            simp only [Bool.and_eq_true, beq_iff_eq] at hjd
            obtain ⟨e, he, hb⟩ := Array.any_eq_true'.1 hjd.1
            simp only [Bool.and_eq_true, beq_iff_eq] at hb
            exact H.f j oj d hoj (by rw [← hb.2]; exact hready e he hb.1) hjd.2
        have hwant := hg i o ho a w hfacts
        refine wpOp_step ho fun K' hK => ?_
        rw [if_pos hwant]
        have hll := left_set (by rw [H.s]; exact hlt) h0 ops.size hlt
        refine steps i hlt o ho a w H.b H.n hfacts K' fun v w' hw hf => ?_
        exact hK _ _ (ih _ _ _ (by omega) (H.nextE T hn ho hi hw hf))
theorem region_guard {id : Nat} {w : World} (F : Nat → Fact) (hm : P.follows .mixedOrders = true) (hT : textEnd .any ops a0.tmps.size = true) (steps : ∀ i, i < ops.size → StepOk P .any ops Q F a0 w i)
    (hg : ∀ i o, ops[i]? = some o → ∀ (a : Act) (w : World), (∀ j d, waits .any ops i j d = true → (F j).p (a.tmps.getD d undef) w) → Region.wanted o (yielded ops a.tmps) = true)
    (fin : ∀ a W, Based ops a0 a → Below w.heap.size w W → (∀ i d, writes ops i d = true → (F i).p (a.tmps.getD d undef) W) → Q .normal a W) : (Code.region id ops true).wp P Q a0 w := by
  have T := textE_of hT
  have z : ∀ j, (Array.replicate ops.size false).getD j false = false := fun j => by
    rw [Array.getD_eq_getD_getElem?, Array.getElem?_replicate]
    split <;> rfl
  refine wp_region_any hm ?_
  refine any_end (w0 := w) T (Nat.le_refl _) steps hg (fun a W hb hw hf => fin a W hb hw (fun i d hd => ?_)) ops.size _ a0 _ ?_ ⟨⟨rfl, rfl, fun _ _ => rfl⟩, (Below.refl _ _).drew, ?_, ?_, by simp⟩
  · obtain ⟨o, ho, hd'⟩ := writes_is hd
    exact hf i o d ho hd'
  · have : ∀ m, left (Array.replicate ops.size false) m ≤ m := by
      intro m
      induction m with
      | zero => exact Nat.le_refl _
      | succ m ih => unfold left; split <;> omega
    exact this _
  · intro i o d ho hl _
    rw [z] at hl
    simp at hl
  · intro i o ho hl
    rw [z] at hl
    simp at hl
theorem wanted_none {o : Oper} {a : Act} (h : o.guard = none) : Region.wanted o (yielded ops a.tmps) = true := by simp [Region.wanted, h]
theorem wanted_some {o : Oper} {a : Act} {g d : Nat} {v : Bool} (h : o.guard = some (g, v)) (hd : writes ops g d = true) (e : a.tmps.getD d undef = .bool v) : Region.wanted o (yielded ops a.tmps) = true := by
  obtain ⟨og, ho, hd'⟩ := writes_is hd
  have e1 : a.tmps[d]? = some (.bool v) := by
    rw [Array.getD_eq_getD_getElem?] at e
    cases hq : a.tmps[d]? with
    | none => rw [hq] at e; simp [undef] at e
    | some x => rw [hq] at e; simpa using e
  simp [Region.wanted, h, yielded, ho, hd', e1]
theorem puts_guard {n : Nat} (hT : textEnd md ops n = true) (hn : n = a0.tmps.size) {a : Act} (hb : Based ops a0 a) (vs : Nat → Value) (hv : ∀ d, a.tmps.getD d undef = vs d) : a = puts vs a0 ops.toList := by
  have T := textE_of hT
  have hin : ∀ o ∈ ops.toList, ∀ e, o.dst = some e → e < a0.tmps.size := fun o ho e he => by
    obtain ⟨i, hi⟩ := List.getElem?_of_mem ho
    have := T.d i o e (by simpa using hi) he
    rw [hn] at this
    exact this
  obtain ⟨s1, s2⟩ := puts_size vs ops.toList a0
  obtain ⟨ta, da⟩ := a
  obtain ⟨h1, h2, h3⟩ := hb
  have e1 : ta = (puts vs a0 ops.toList).tmps := by
    apply Array.ext
    · rw [s1]; exact h2
    · intro i hi hi'
      have g := puts_get vs i ops.toList a0 hin
      have l : ta[i] = ta.getD i undef := by simp [Array.getD_eq_getD_getElem?, hi]
      have r : (puts vs a0 ops.toList).tmps[i] = (puts vs a0 ops.toList).tmps.getD i undef := by simp only [Array.getD_eq_getD_getElem?, Array.getElem?_eq_getElem hi', Option.getD_some]
      rw [l, r, g]
      by_cases c : ops.toList.any (fun o => o.dst == some i) = true
      · rw [if_pos c]; exact hv i
      · rw [if_neg c]
        refine h3 i ?_
        unfold apart
        rw [Array.all_eq_true_iff_forall_mem]
        intro o ho
        have hne : ¬ (o.dst == some i) = true := fun x => c (List.any_eq_true.2 ⟨o, by simpa using ho, x⟩)
        simpa using hne
  have e2 : da = (puts vs a0 ops.toList).defers := h1.trans s2.symm
  subst e1
  subst e2
  rfl
end
end Go.Proofs.YtmmbkkfjiaoeiaaGreat
namespace Go.Proofs.YtmmbkkfjiaoeiaaGreat
open Go Go.RowKit
section
variable {P : Program} {ops : Array Oper} {Q : Exit → Act → World → Prop} {md : Region.Mode} {F : Nat → Fact} {a0 : Act} {w0 : World}
theorem any_endW {n : Nat} {wn : Nat → Bool} (T : TextE md ops n) (hn : n ≤ a0.tmps.size) (steps : ∀ i, i < ops.size → wn i = true → StepOk P md ops Q F a0 w0 i)
    (hg : ∀ i o, ops[i]? = some o → ∀ (a : Act) (w : World), (∀ j d, waits md ops i j d = true → (F j).p (a.tmps.getD d undef) w) → (wn i = true ∧ Region.wanted o (yielded ops a.tmps) = true) ∨ (Region.wanted o (yielded ops a.tmps) = false ∧ (F i).p undef w))
    (fin : ∀ a w, Based ops a0 a → Below w0.heap.size w0 w → (∀ i o d, ops[i]? = some o → o.dst = some d → (F i).p (a.tmps.getD d undef) w) → Q .normal a w) :
    ∀ (fuel : Nat) (listed : Array Bool) (a : Act) (w : World), left listed ops.size ≤ fuel → Held md ops F a0 w0 listed a w → wpAny P md ops Q fuel listed a w := by
  have done : ∀ (fuel : Nat) (listed : Array Bool) (a : Act) (w : World), Held md ops F a0 w0 listed a w → (∀ i, i < ops.size → listed.getD i false = true) → wpAny P md ops Q fuel listed a w := by
    intro fuel listed a w H hall
    refine wpAny_done ?_ (fin a w H.b H.n (fun i o d ho hd => H.f i o d ho (hall i (Array.getElem?_eq_some_iff.1 ho).1) hd)) fuel
    cases hr : Region.ready md ops listed with
    | nil => rfl
    | cons i t =>
      exfalso
      have hi : i ∈ Region.ready md ops listed := by rw [hr]; simp
      obtain ⟨h0, o, ho, _⟩ := mem_ready.1 hi
      have hlt := (Array.getElem?_eq_some_iff.1 ho).1
      rw [dflt (by rw [H.s]; exact hlt), hall i hlt] at h0
      simp at h0
  intro fuel
  induction fuel with
  | zero =>
    intro listed a w hl H
    exact done 0 listed a w H fun i hi => by
      rw [← dflt (by rw [H.s]; exact hi)]
      exact left_zero (n := ops.size) (by omega) i hi
  | succ fuel ih =>
    intro listed a w hl H
    by_cases hall : ∀ i, i < ops.size → listed.getD i false = true
    · exact done _ listed a w H hall
    · refine ⟨fun hr => ?_, fun i hi => ?_⟩
      · exfalso
        refine hall fun j hj => ?_
        have : ∀ m i, i < m → i < ops.size → listed.getD i false = true := by
          intro m
          induction m with
          | zero => intro i hi; omega
          | succ m ihm =>
            intro i hi hik
            rcases Nat.lt_or_ge i m with h1 | h1
            · exact ihm i h1 hik
            · obtain rfl : i = m := by omega
              cases hc : listed.getD i false
              · exfalso
                obtain ⟨o, ho⟩ : ∃ o, ops[i]? = some o := ⟨ops[i], by simp [hik]⟩
                have hr' : i ∈ Region.ready md ops listed := mem_ready.2 ⟨by rw [dflt (by rw [H.s]; omega)]; exact hc, o, ho, fun e he hb => ihm e.on (T.a i o ho e he hb) (by have := T.a i o ho e he hb; omega)⟩
                rw [hr] at hr'
                simp at hr'
              · rfl
        exact this (j + 1) j (by omega) hj
      · obtain ⟨h0, o, ho, hready⟩ := mem_ready.1 hi
        have hlt := (Array.getElem?_eq_some_iff.1 ho).1
        have hfacts : ∀ j d, waits md ops i j d = true → (F j).p (a.tmps.getD d undef) w := by
          intro j d hjd
          unfold waits at hjd
          rw [ho] at hjd
          cases hoj : ops[j]? with
          | none => rw [hoj] at hjd; simp at hjd
          | some oj =>
            rw [hoj] at hjd
            simp only [Bool.and_eq_true, beq_iff_eq] at hjd
            obtain ⟨e, he, hb⟩ := Array.any_eq_true'.1 hjd.1
            simp only [Bool.and_eq_true, beq_iff_eq] at hb
            exact H.f j oj d hoj (by rw [← hb.2]; exact hready e he hb.1) hjd.2
        have hll := left_set (by rw [H.s]; exact hlt) h0 ops.size hlt
        refine wpOp_step ho fun K' hK => ?_
        rcases hg i o ho a w hfacts with ⟨hwn, hwant⟩ | ⟨hwant, hu⟩
        · rw [if_pos hwant]
          refine steps i hlt hwn o ho a w H.b H.n hfacts K' fun v w' hw hf => ?_
          exact hK _ _ (ih _ _ _ (by omega) (H.nextE T hn ho hi hw hf))
        · rw [if_neg (by rw [hwant]; decide)]
          exact hK _ _ (ih _ _ _ (by omega) (H.nextE T hn ho hi (Below.refl _ _) hu))
theorem region_guardW {id : Nat} {w : World} (wn : Nat → Bool) (F : Nat → Fact) (hm : P.follows .mixedOrders = true) (hT : textEnd .any ops a0.tmps.size = true) (steps : ∀ i, i < ops.size → wn i = true → StepOk P .any ops Q F a0 w i)
    (hg : ∀ i o, ops[i]? = some o → ∀ (a : Act) (w : World), (∀ j d, waits .any ops i j d = true → (F j).p (a.tmps.getD d undef) w) → (wn i = true ∧ Region.wanted o (yielded ops a.tmps) = true) ∨ (Region.wanted o (yielded ops a.tmps) = false ∧ (F i).p undef w))
    (fin : ∀ a W, Based ops a0 a → Below w.heap.size w W → (∀ i d, writes ops i d = true → (F i).p (a.tmps.getD d undef) W) → Q .normal a W) : (Code.region id ops true).wp P Q a0 w := by
  have T := textE_of hT
  have z : ∀ j, (Array.replicate ops.size false).getD j false = false := fun j => by
    rw [Array.getD_eq_getD_getElem?, Array.getElem?_replicate]
    split <;> rfl
  refine wp_region_any hm ?_
  refine any_endW (wn := wn) (w0 := w) T (Nat.le_refl _) steps hg (fun a W hb hw hf => fin a W hb hw (fun i d hd => ?_)) ops.size _ a0 _ ?_ ⟨⟨rfl, rfl, fun _ _ => rfl⟩, (Below.refl _ _).drew, ?_, ?_, by simp⟩
  · obtain ⟨o, ho, hd'⟩ := writes_is hd
    exact hf i o d ho hd'
  · have : ∀ m, left (Array.replicate ops.size false) m ≤ m := by
      intro m
      induction m with
      | zero => exact Nat.le_refl _
      | succ m ih => unfold left; split <;> omega
    exact this _
  · intro i o d ho hl _
    rw [z] at hl
    simp at hl
  · intro i o ho hl
    rw [z] at hl
    simp at hl
theorem wanted_off {o : Oper} {a : Act} {g d : Nat} {v b : Bool} (h : o.guard = some (g, v)) (hd : writes ops g d = true) (e : a.tmps.getD d undef = .bool b) (hne : b ≠ v) : Region.wanted o (yielded ops a.tmps) = false := by
  obtain ⟨og, ho, hd'⟩ := writes_is hd
  have e1 : a.tmps[d]? = some (.bool b) := by
    rw [Array.getD_eq_getD_getElem?] at e
    cases hq : a.tmps[d]? with
    | none => rw [hq] at e; simp [undef] at e
    | some x => rw [hq] at e; simpa using e
  cases b <;> cases v <;> simp_all [Region.wanted, yielded]
end
end Go.Proofs.YtmmbkkfjiaoeiaaGreat
