import Derived.Test.YtmmbkkfjiaoeiaaGreatGV17
namespace Go.Proofs.YtmmbkkfjiaoeiaaGreat
open Go Go.RowKit
set_option maxRecDepth 100000 in
set_option maxHeartbeats 8000000 in
theorem parseEnd_any (w:World) (g:Nat) (a:Option Addr) (c:Nat) (xs:List Int) (hr:Rd w g a .u8 xs) (_hb:Byt xs) (_hx:xs.length≤8192) :
  Calls Tryz.prog 30 #[.int .i64 5,.slice a xs.length c] w fun e w'=>(∃ p,e = .returned (.agg (mgV p (rdEnd xs)))∧HasM w' p (rdEnd xs)∧HasZ p (rdEnd xs)∧TyM w' p (rdEnd xs)∧∀ g,g < w.heap.size→NoM g p (rdEnd xs))∧Below w.heap.size w w':=by
 have P0:PS w ((((w.alloc (.cells #[.int .i64 0,.int .i64 0,.slice none 0 0,.slice none 0 0,.string ⟨#[]⟩,.slice none 0 0,.slice none 0 0,.int .i64 0,.int .i64 0,.slice none 0 0,.bool false,.slice none 0 0,.slice none 0 0] 26)).alloc (.cells #[.slice a xs.length c,.int .i64 0] 105)).alloc (.cells #[.int .i64 0,.int .i64 0,.slice none 0 0,.slice none 0 0,.string ⟨#[]⟩,.slice none 0 0,.slice none 0 0,.int .i64 0,.int .i64 0,.slice none 0 0,.bool false,.slice none 0 0,.slice none 0 0] 26)).setCells (w.heap.size+1+1) 0 [.int .i64 5,.int .i64 0,.slice none 0 0,.slice none 0 0,.string ⟨#[]⟩,.slice none 0 0,.slice none 0 0,.int .i64 0,.int .i64 0,.slice none 0 0,.bool false,.slice none 0 0,.slice none 0 0]) (.slice a xs.length c) 0 [.int .i64 5,.int .i64 0,.slice none 0 0,.slice none 0 0,.string ⟨#[]⟩,.slice none 0 0,.slice none 0 0,.int .i64 0,.int .i64 0,.slice none 0 0,.bool false,.slice none 0 0,.slice none 0 0]:=PS.start w (.slice a xs.length c) 5
 have THR:(((w.alloc (.cells #[.int .i64 0,.int .i64 0,.slice none 0 0,.slice none 0 0,.string ⟨#[]⟩,.slice none 0 0,.slice none 0 0,.int .i64 0,.int .i64 0,.slice none 0 0,.bool false,.slice none 0 0,.slice none 0 0] 26)).alloc (.cells #[.slice a xs.length c,.int .i64 0] 105)).alloc (.cells #[.int .i64 0,.int .i64 0,.slice none 0 0,.slice none 0 0,.string ⟨#[]⟩,.slice none 0 0,.slice none 0 0,.int .i64 0,.int .i64 0,.slice none 0 0,.bool false,.slice none 0 0,.slice none 0 0] 26)).there (w.heap.size+1+1) 0 13:=PS.room w (.slice a xs.length c)
 obtain ⟨d13,hd13,hrow13⟩:=rowM
 have HR:=hide hr
 clear hr
 go_enter Tryz.func30,Tryz.ntmps30
 go_upto_region 3 with (refine wpList_store_mid rfl 26 (.tmp 6) (.tmp 12) rfl (w.heap.size+1+1) 0 #[.int .i64 5,.int .i64 0,.slice none 0 0,.slice none 0 0,.string ⟨#[]⟩,.slice none 0 0,.slice none 0 0,.int .i64 0,.int .i64 0,.slice none 0 0,.bool false,.slice none 0 0,.slice none 0 0] rfl rfl THR iM (all_oneCell_toArray fun v hv=>by (simp only [List.mem_cons,List.not_mem_nil,or_false] at hv;rcases hv with rfl | rfl | rfl | rfl | rfl | rfl | rfl | rfl | rfl | rfl | rfl | rfl | rfl;all_goals rfl)) ?_)
 have PH:=hide P0
 clear P0 THR
 generalize (((w.alloc (.cells #[.int .i64 0,.int .i64 0,.slice none 0 0,.slice none 0 0,.string ⟨#[]⟩,.slice none 0 0,.slice none 0 0,.int .i64 0,.int .i64 0,.slice none 0 0,.bool false,.slice none 0 0,.slice none 0 0] 26)).alloc (.cells #[.slice a xs.length c,.int .i64 0] 105)).alloc (.cells #[.int .i64 0,.int .i64 0,.slice none 0 0,.slice none 0 0,.string ⟨#[]⟩,.slice none 0 0,.slice none 0 0,.int .i64 0,.int .i64 0,.slice none 0 0,.bool false,.slice none 0 0,.slice none 0 0] 26)).setCells (w.heap.size+1+1) 0 [.int .i64 5,.int .i64 0,.slice none 0 0,.slice none 0 0,.string ⟨#[]⟩,.slice none 0 0,.slice none 0 0,.int .i64 0,.int .i64 0,.slice none 0 0,.bool false,.slice none 0 0,.slice none 0 0]=W0 at *
 have RG:=PH.out.T.rangeG
 have THR:=PH.out.U.thereG
 have RR:=World.rangeAt_setCells_same W0 w.heap.size 0 [.int .i64 5,.int .i64 0,.slice none 0 0,.slice none 0 0,.string ⟨#[]⟩,.slice none 0 0,.slice none 0 0,.int .i64 0,.int .i64 0,.slice none 0 0,.bool false,.slice none 0 0,.slice none 0 0] THR
 have OQ:=only_setG W0 w.heap.size [.int .i64 5,.int .i64 0,.slice none 0 0,.slice none 0 0,.string ⟨#[]⟩,.slice none 0 0,.slice none 0 0,.int .i64 0,.int .i64 0,.slice none 0 0,.bool false,.slice none 0 0,.slice none 0 0] 0
 have N8:Hid (Below w.heap.size w (W0.setCells w.heap.size 0 [.int .i64 5,.int .i64 0,.slice none 0 0,.slice none 0 0,.string ⟨#[]⟩,.slice none 0 0,.slice none 0 0,.int .i64 0,.int .i64 0,.slice none 0 0,.bool false,.slice none 0 0,.slice none 0 0])):=PH.out.N.trans (OQ.below (by omega))
 clear OQ PH
 have ON:([.int .i64 5,.int .i64 0,.slice none 0 0,.slice none 0 0,.string ⟨#[]⟩,.slice none 0 0,.slice none 0 0,.int .i64 0,.int .i64 0,.slice none 0 0,.bool false,.slice none 0 0,.slice none 0 0]:List Value).toArray.all (·.oneCell')=true:=all_oneCell_toArray fun v hv=>by
  simp only [List.mem_cons,List.not_mem_nil,or_false] at hv
  rcases hv with rfl | rfl | rfl | rfl | rfl | rfl | rfl | rfl | rfl | rfl | rfl | rfl | rfl
  all_goals rfl
 have RES:Hid ((∃ p,Ending.returned (.agg #[.int .i64 5,.int .i64 0,.slice none 0 0,.slice none 0 0,.string ⟨#[]⟩,.slice none 0 0,.slice none 0 0,.int .i64 0,.int .i64 0,.slice none 0 0,.bool false,.slice none 0 0,.slice none 0 0]) = .returned (.agg (mgV p (rdEnd xs)))∧HasM (W0.setCells w.heap.size 0 [.int .i64 5,.int .i64 0,.slice none 0 0,.slice none 0 0,.string ⟨#[]⟩,.slice none 0 0,.slice none 0 0,.int .i64 0,.int .i64 0,.slice none 0 0,.bool false,.slice none 0 0,.slice none 0 0]) p (rdEnd xs)∧HasZ p (rdEnd xs)∧TyM (W0.setCells w.heap.size 0 [.int .i64 5,.int .i64 0,.slice none 0 0,.slice none 0 0,.string ⟨#[]⟩,.slice none 0 0,.slice none 0 0,.int .i64 0,.int .i64 0,.slice none 0 0,.bool false,.slice none 0 0,.slice none 0 0]) p (rdEnd xs)∧∀ g,g < w.heap.size→NoM g p (rdEnd xs))∧Below w.heap.size w (W0.setCells w.heap.size 0 [.int .i64 5,.int .i64 0,.slice none 0 0,.slice none 0 0,.string ⟨#[]⟩,.slice none 0 0,.slice none 0 0,.int .i64 0,.int .i64 0,.slice none 0 0,.bool false,.slice none 0 0,.slice none 0 0])):=⟨⟨⟨none,0,0,none,0,0,none,0,0,none,0,0,none,0,0,none,0,0,none,0,0,[]⟩,rfl,⟨rd0 _ _ _ _,rd0 _ _ _ _,rdT0 _ _ _,rd0 _ _ _ _,rd0 _ _ _ _,rdL0 _ _ _ _,rd0 _ _ _ _,Nat.zero_le _⟩,⟨(fun _=>rfl),(fun _=>rfl),(fun _=>rfl),(fun _=>rfl),(fun _=>rfl),fun i hi=>absurd hi (by simp [rdEnd])⟩,⟨fun h=>absurd h (by simp [rdEnd]),fun h=>absurd h (by simp [rdEnd])⟩,(fun g hg=>⟨(fun h=>absurd h (by simp [rdEnd])),(fun h=>absurd h (by simp [rdEnd])),(fun h=>absurd h (by simp [rdEnd])),(fun h=>absurd h (by simp [rdEnd])),(fun h=>absurd h (by simp [rdEnd])),(fun h=>absurd h (by simp [rdEnd])),(fun i h=>absurd h (by simp [rdEnd])),(fun h=>absurd h (by simp [rdEnd]))⟩)⟩,N8.out⟩
 clear N8
 go_wp2_with (first
  | (refine wpList_load_mid rfl 26 (.tmp 6) rfl (w.heap.size+1+1) 0 rfl [.int .i64 5,.int .i64 0,.slice none 0 0,.slice none 0 0,.string ⟨#[]⟩,.slice none 0 0,.slice none 0 0,.int .i64 0,.int .i64 0,.slice none 0 0,.bool false,.slice none 0 0,.slice none 0 0] d13 RG hd13 hrow13 iM ?_)
  | (refine wpList_store_mid rfl 26 (.tmp 4) (.tmp 124) rfl w.heap.size 0 #[.int .i64 5,.int .i64 0,.slice none 0 0,.slice none 0 0,.string ⟨#[]⟩,.slice none 0 0,.slice none 0 0,.int .i64 0,.int .i64 0,.slice none 0 0,.bool false,.slice none 0 0,.slice none 0 0] rfl rfl THR iM ON ?_))
 exact bodyPost_ret (v := .agg #[.int .i64 5,.int .i64 0,.slice none 0 0,.slice none 0 0,.string ⟨#[]⟩,.slice none 0 0,.slice none 0 0,.int .i64 0,.int .i64 0,.slice none 0 0,.bool false,.slice none 0 0,.slice none 0 0]) (results_cellG Tryz.results30 _ _ w.heap.size _ d13 rfl RR hd13 hrow13 iM) rfl RES.out
end Go.Proofs.YtmmbkkfjiaoeiaaGreat
namespace Go.Proofs.YtmmbkkfjiaoeiaaGreat
open Go Go.RowKit
set_option maxRecDepth 100000 in
set_option maxHeartbeats 8000000 in
theorem parseFinished_any (w:World) (g:Nat) (a:Option Addr) (c:Nat) (xs:List Int) (hr:Rd w g a .u8 xs) (_hb:Byt xs) (hx:xs.length≤8192) :
  Calls Tryz.prog 30 #[.int .i64 20,.slice a xs.length c] w fun e w'=>(∃ p,e = .returned (.agg (mgV p (rdFinished xs)))∧HasM w' p (rdFinished xs)∧HasZ p (rdFinished xs)∧TyM w' p (rdFinished xs)∧∀ g,g < w.heap.size→NoM g p (rdFinished xs))∧Below w.heap.size w w':=by
 have P0:PS w ((((w.alloc (.cells #[.int .i64 0,.int .i64 0,.slice none 0 0,.slice none 0 0,.string ⟨#[]⟩,.slice none 0 0,.slice none 0 0,.int .i64 0,.int .i64 0,.slice none 0 0,.bool false,.slice none 0 0,.slice none 0 0] 26)).alloc (.cells #[.slice a xs.length c,.int .i64 0] 105)).alloc (.cells #[.int .i64 0,.int .i64 0,.slice none 0 0,.slice none 0 0,.string ⟨#[]⟩,.slice none 0 0,.slice none 0 0,.int .i64 0,.int .i64 0,.slice none 0 0,.bool false,.slice none 0 0,.slice none 0 0] 26)).setCells (w.heap.size+1+1) 0 [.int .i64 20,.int .i64 0,.slice none 0 0,.slice none 0 0,.string ⟨#[]⟩,.slice none 0 0,.slice none 0 0,.int .i64 0,.int .i64 0,.slice none 0 0,.bool false,.slice none 0 0,.slice none 0 0]) (.slice a xs.length c) 0 [.int .i64 20,.int .i64 0,.slice none 0 0,.slice none 0 0,.string ⟨#[]⟩,.slice none 0 0,.slice none 0 0,.int .i64 0,.int .i64 0,.slice none 0 0,.bool false,.slice none 0 0,.slice none 0 0]:=PS.start w (.slice a xs.length c) 20
 have THR:(((w.alloc (.cells #[.int .i64 0,.int .i64 0,.slice none 0 0,.slice none 0 0,.string ⟨#[]⟩,.slice none 0 0,.slice none 0 0,.int .i64 0,.int .i64 0,.slice none 0 0,.bool false,.slice none 0 0,.slice none 0 0] 26)).alloc (.cells #[.slice a xs.length c,.int .i64 0] 105)).alloc (.cells #[.int .i64 0,.int .i64 0,.slice none 0 0,.slice none 0 0,.string ⟨#[]⟩,.slice none 0 0,.slice none 0 0,.int .i64 0,.int .i64 0,.slice none 0 0,.bool false,.slice none 0 0,.slice none 0 0] 26)).there (w.heap.size+1+1) 0 13:=PS.room w (.slice a xs.length c)
 obtain ⟨d13,hd13,hrow13⟩:=rowM
 have HR:=hide hr
 clear hr
 go_enter Tryz.func30,Tryz.ntmps30
 go_upto_region 3 with (refine wpList_store_mid rfl 26 (.tmp 6) (.tmp 12) rfl (w.heap.size+1+1) 0 #[.int .i64 20,.int .i64 0,.slice none 0 0,.slice none 0 0,.string ⟨#[]⟩,.slice none 0 0,.slice none 0 0,.int .i64 0,.int .i64 0,.slice none 0 0,.bool false,.slice none 0 0,.slice none 0 0] rfl rfl THR iM (all_oneCell_toArray fun v hv=>by (simp only [List.mem_cons,List.not_mem_nil,or_false] at hv;rcases hv with rfl | rfl | rfl | rfl | rfl | rfl | rfl | rfl | rfl | rfl | rfl | rfl | rfl;all_goals rfl)) ?_)
 have PH:=hide P0
 clear P0 THR
 generalize (((w.alloc (.cells #[.int .i64 0,.int .i64 0,.slice none 0 0,.slice none 0 0,.string ⟨#[]⟩,.slice none 0 0,.slice none 0 0,.int .i64 0,.int .i64 0,.slice none 0 0,.bool false,.slice none 0 0,.slice none 0 0] 26)).alloc (.cells #[.slice a xs.length c,.int .i64 0] 105)).alloc (.cells #[.int .i64 0,.int .i64 0,.slice none 0 0,.slice none 0 0,.string ⟨#[]⟩,.slice none 0 0,.slice none 0 0,.int .i64 0,.int .i64 0,.slice none 0 0,.bool false,.slice none 0 0,.slice none 0 0] 26)).setCells (w.heap.size+1+1) 0 [.int .i64 20,.int .i64 0,.slice none 0 0,.slice none 0 0,.string ⟨#[]⟩,.slice none 0 0,.slice none 0 0,.int .i64 0,.int .i64 0,.slice none 0 0,.bool false,.slice none 0 0,.slice none 0 0]=W0 at *
 have lt:=PH.out.T.lt
 have NM:=hide (takeM_any W0 (w.heap.size+1) g a c xs (0) 32 (HR.out.up PH.out.N) PH.out.Q (by omega) (by omega) (by omega))
 go_wp2_with fail
 refine NM.out.mono ?_
 rintro e V0 ⟨rfl,B,hQ,hT⟩
 have PV:=hide (PH.out.call hQ hT)
 obtain ⟨G12,hG⟩:∃ G,W0.heap.size=G:=⟨_,rfl⟩
 rw [hG] at B lt ⊢
 have CG12:Hid (FB (w.heap.size+1+1) V0 G12 (tkB xs (0) 32)):=⟨B,lt⟩
 clear NM hQ hT PH B lt hG
 have PH:=PV
 clear PV
 have qT:V0.cell? ⟨w.heap.size+1+1,12,none⟩=some (.slice none 0 0):=PH.out.T.cell 12
 have qF:=PH.out.T.free 12
 go_upto_region 39 with fail
 have PN:Hid (PS w (V0.setCell ⟨w.heap.size+1+1,12,none⟩ (.slice (some ⟨G12,0,none⟩) 32 32)) (.slice a xs.length c) _ [.int .i64 20,.int .i64 0,.slice none 0 0,.slice none 0 0,.string ⟨#[]⟩,.slice none 0 0,.slice none 0 0,.int .i64 0,.int .i64 0,.slice none 0 0,.bool false,.slice none 0 0,.slice (some ⟨G12,0,none⟩) 32 32]):=PH.out.set 12 _
 have CG12':=hide (CG12.out.onl (Only.setCell V0 (w.heap.size+1+1) 12 (.slice (some ⟨G12,0,none⟩) 32 32)) (Nat.le_refl _))
 clear CG12
 have CG12:=CG12'
 clear CG12'
 clear qT qF PH
 generalize V0.setCell ⟨w.heap.size+1+1,12,none⟩ (.slice (some ⟨G12,0,none⟩) 32 32)=W1 at *
 have PH:=PN
 clear PN
 have RG:=PH.out.T.rangeG
 have THR:=PH.out.U.thereG
 have RR:=World.rangeAt_setCells_same W1 w.heap.size 0 [.int .i64 20,.int .i64 0,.slice none 0 0,.slice none 0 0,.string ⟨#[]⟩,.slice none 0 0,.slice none 0 0,.int .i64 0,.int .i64 0,.slice none 0 0,.bool false,.slice none 0 0,.slice (some ⟨G12,0,none⟩) 32 32] THR
 have OQ:=only_setG W1 w.heap.size [.int .i64 20,.int .i64 0,.slice none 0 0,.slice none 0 0,.string ⟨#[]⟩,.slice none 0 0,.slice none 0 0,.int .i64 0,.int .i64 0,.slice none 0 0,.bool false,.slice none 0 0,.slice (some ⟨G12,0,none⟩) 32 32] 0
 have N8:Hid (Below w.heap.size w (W1.setCells w.heap.size 0 [.int .i64 20,.int .i64 0,.slice none 0 0,.slice none 0 0,.string ⟨#[]⟩,.slice none 0 0,.slice none 0 0,.int .i64 0,.int .i64 0,.slice none 0 0,.bool false,.slice none 0 0,.slice (some ⟨G12,0,none⟩) 32 32])):=PH.out.N.trans (OQ.below (by omega))
 have CG12':=hide (CG12.out.onl OQ (by omega))
 clear CG12
 have CG12:=CG12'
 clear CG12'
 clear OQ PH
 have ON:([.int .i64 20,.int .i64 0,.slice none 0 0,.slice none 0 0,.string ⟨#[]⟩,.slice none 0 0,.slice none 0 0,.int .i64 0,.int .i64 0,.slice none 0 0,.bool false,.slice none 0 0,.slice (some ⟨G12,0,none⟩) 32 32]:List Value).toArray.all (·.oneCell')=true:=all_oneCell_toArray fun v hv=>by
  simp only [List.mem_cons,List.not_mem_nil,or_false] at hv
  rcases hv with rfl | rfl | rfl | rfl | rfl | rfl | rfl | rfl | rfl | rfl | rfl | rfl | rfl
  all_goals rfl
 have RES:Hid ((∃ p,Ending.returned (.agg #[.int .i64 20,.int .i64 0,.slice none 0 0,.slice none 0 0,.string ⟨#[]⟩,.slice none 0 0,.slice none 0 0,.int .i64 0,.int .i64 0,.slice none 0 0,.bool false,.slice none 0 0,.slice (some ⟨G12,0,none⟩) 32 32]) = .returned (.agg (mgV p (rdFinished xs)))∧HasM (W1.setCells w.heap.size 0 [.int .i64 20,.int .i64 0,.slice none 0 0,.slice none 0 0,.string ⟨#[]⟩,.slice none 0 0,.slice none 0 0,.int .i64 0,.int .i64 0,.slice none 0 0,.bool false,.slice none 0 0,.slice (some ⟨G12,0,none⟩) 32 32]) p (rdFinished xs)∧HasZ p (rdFinished xs)∧TyM (W1.setCells w.heap.size 0 [.int .i64 20,.int .i64 0,.slice none 0 0,.slice none 0 0,.string ⟨#[]⟩,.slice none 0 0,.slice none 0 0,.int .i64 0,.int .i64 0,.slice none 0 0,.bool false,.slice none 0 0,.slice (some ⟨G12,0,none⟩) 32 32]) p (rdFinished xs)∧∀ g,g < w.heap.size→NoM g p (rdFinished xs))∧Below w.heap.size w (W1.setCells w.heap.size 0 [.int .i64 20,.int .i64 0,.slice none 0 0,.slice none 0 0,.string ⟨#[]⟩,.slice none 0 0,.slice none 0 0,.int .i64 0,.int .i64 0,.slice none 0 0,.bool false,.slice none 0 0,.slice (some ⟨G12,0,none⟩) 32 32])):=⟨⟨⟨none,0,0,none,0,0,none,0,0,none,0,0,none,0,0,none,0,0,some ⟨G12,0,none⟩,32,G12,[]⟩,by simp only [mgV,rdFinished,tkB_len,List.length_nil],⟨rd0 _ _ _ _,rd0 _ _ _ _,rdT0 _ _ _,rd0 _ _ _ _,rd0 _ _ _ _,rdL0 _ _ _ _,CG12.out.1.own0.rd,Nat.zero_le _⟩,⟨(fun _=>rfl),(fun _=>rfl),(fun _=>rfl),(fun _=>rfl),(fun h=>by cases h),fun i hi=>absurd hi (by simp [rdFinished])⟩,⟨fun h=>absurd h (by simp [rdFinished]),fun h=>absurd h (by simp [rdFinished])⟩,(fun g hg=>⟨(fun h=>absurd h (by simp [rdFinished])),(fun h=>absurd h (by simp [rdFinished])),(fun h=>absurd h (by simp [rdFinished])),(fun h=>absurd h (by simp [rdFinished])),(fun h=>absurd h (by simp [rdFinished])),(fun h=>absurd h (by simp [rdFinished])),(fun i h=>absurd h (by simp [rdFinished])),(fun _=>by have h2:=CG12.out.2;show G12≠_;omega)⟩)⟩,N8.out⟩
 clear N8
 go_wp2_with (first
  | (refine wpList_load_mid rfl 26 (.tmp 6) rfl (w.heap.size+1+1) 0 rfl [.int .i64 20,.int .i64 0,.slice none 0 0,.slice none 0 0,.string ⟨#[]⟩,.slice none 0 0,.slice none 0 0,.int .i64 0,.int .i64 0,.slice none 0 0,.bool false,.slice none 0 0,.slice (some ⟨G12,0,none⟩) 32 32] d13 RG hd13 hrow13 iM ?_)
  | (refine wpList_store_mid rfl 26 (.tmp 4) (.tmp 124) rfl w.heap.size 0 #[.int .i64 20,.int .i64 0,.slice none 0 0,.slice none 0 0,.string ⟨#[]⟩,.slice none 0 0,.slice none 0 0,.int .i64 0,.int .i64 0,.slice none 0 0,.bool false,.slice none 0 0,.slice (some ⟨G12,0,none⟩) 32 32] rfl rfl THR iM ON ?_))
 exact bodyPost_ret (v := .agg #[.int .i64 20,.int .i64 0,.slice none 0 0,.slice none 0 0,.string ⟨#[]⟩,.slice none 0 0,.slice none 0 0,.int .i64 0,.int .i64 0,.slice none 0 0,.bool false,.slice none 0 0,.slice (some ⟨G12,0,none⟩) 32 32]) (results_cellG Tryz.results30 _ _ w.heap.size _ d13 rfl RR hd13 hrow13 iM) rfl RES.out
end Go.Proofs.YtmmbkkfjiaoeiaaGreat
namespace Go.Proofs.YtmmbkkfjiaoeiaaGreat
open Go Go.RowKit
set_option maxRecDepth 100000 in
set_option maxHeartbeats 8000000 in
theorem parseHello_any (w:World) (g:Nat) (a:Option Addr) (c:Nat) (xs:List Int) (hr:Rd w g a .u8 xs) (hb:Byt xs) (hx:xs.length≤8192) :
  Calls Tryz.prog 30 #[.int .i64 1,.slice a xs.length c] w fun e w'=>(∃ p,e = .returned (.agg (mgV p (rdHello xs)))∧HasM w' p (rdHello xs)∧HasZ p (rdHello xs)∧TyM w' p (rdHello xs)∧∀ g,g < w.heap.size→NoM g p (rdHello xs))∧Below w.heap.size w w':=by
 have P0:PS w ((((w.alloc (.cells #[.int .i64 0,.int .i64 0,.slice none 0 0,.slice none 0 0,.string ⟨#[]⟩,.slice none 0 0,.slice none 0 0,.int .i64 0,.int .i64 0,.slice none 0 0,.bool false,.slice none 0 0,.slice none 0 0] 26)).alloc (.cells #[.slice a xs.length c,.int .i64 0] 105)).alloc (.cells #[.int .i64 0,.int .i64 0,.slice none 0 0,.slice none 0 0,.string ⟨#[]⟩,.slice none 0 0,.slice none 0 0,.int .i64 0,.int .i64 0,.slice none 0 0,.bool false,.slice none 0 0,.slice none 0 0] 26)).setCells (w.heap.size+1+1) 0 [.int .i64 1,.int .i64 0,.slice none 0 0,.slice none 0 0,.string ⟨#[]⟩,.slice none 0 0,.slice none 0 0,.int .i64 0,.int .i64 0,.slice none 0 0,.bool false,.slice none 0 0,.slice none 0 0]) (.slice a xs.length c) 0 [.int .i64 1,.int .i64 0,.slice none 0 0,.slice none 0 0,.string ⟨#[]⟩,.slice none 0 0,.slice none 0 0,.int .i64 0,.int .i64 0,.slice none 0 0,.bool false,.slice none 0 0,.slice none 0 0]:=PS.start w (.slice a xs.length c) 1
 have THR:(((w.alloc (.cells #[.int .i64 0,.int .i64 0,.slice none 0 0,.slice none 0 0,.string ⟨#[]⟩,.slice none 0 0,.slice none 0 0,.int .i64 0,.int .i64 0,.slice none 0 0,.bool false,.slice none 0 0,.slice none 0 0] 26)).alloc (.cells #[.slice a xs.length c,.int .i64 0] 105)).alloc (.cells #[.int .i64 0,.int .i64 0,.slice none 0 0,.slice none 0 0,.string ⟨#[]⟩,.slice none 0 0,.slice none 0 0,.int .i64 0,.int .i64 0,.slice none 0 0,.bool false,.slice none 0 0,.slice none 0 0] 26)).there (w.heap.size+1+1) 0 13:=PS.room w (.slice a xs.length c)
 obtain ⟨d13,hd13,hrow13⟩:=rowM
 have HR:=hide hr
 clear hr
 go_enter Tryz.func30,Tryz.ntmps30
 go_upto_region 3 with (refine wpList_store_mid rfl 26 (.tmp 6) (.tmp 12) rfl (w.heap.size+1+1) 0 #[.int .i64 1,.int .i64 0,.slice none 0 0,.slice none 0 0,.string ⟨#[]⟩,.slice none 0 0,.slice none 0 0,.int .i64 0,.int .i64 0,.slice none 0 0,.bool false,.slice none 0 0,.slice none 0 0] rfl rfl THR iM (all_oneCell_toArray fun v hv=>by (simp only [List.mem_cons,List.not_mem_nil,or_false] at hv;rcases hv with rfl | rfl | rfl | rfl | rfl | rfl | rfl | rfl | rfl | rfl | rfl | rfl | rfl;all_goals rfl)) ?_)
 have PH:=hide P0
 clear P0 THR
 generalize (((w.alloc (.cells #[.int .i64 0,.int .i64 0,.slice none 0 0,.slice none 0 0,.string ⟨#[]⟩,.slice none 0 0,.slice none 0 0,.int .i64 0,.int .i64 0,.slice none 0 0,.bool false,.slice none 0 0,.slice none 0 0] 26)).alloc (.cells #[.slice a xs.length c,.int .i64 0] 105)).alloc (.cells #[.int .i64 0,.int .i64 0,.slice none 0 0,.slice none 0 0,.string ⟨#[]⟩,.slice none 0 0,.slice none 0 0,.int .i64 0,.int .i64 0,.slice none 0 0,.bool false,.slice none 0 0,.slice none 0 0] 26)).setCells (w.heap.size+1+1) 0 [.int .i64 1,.int .i64 0,.slice none 0 0,.slice none 0 0,.string ⟨#[]⟩,.slice none 0 0,.slice none 0 0,.int .i64 0,.int .i64 0,.slice none 0 0,.bool false,.slice none 0 0,.slice none 0 0]=W0 at *
 have NM:=hide (numM_any W0 (w.heap.size+1) g a c xs (0) 1 (HR.out.up PH.out.N) hb PH.out.Q (by omega) (by omega) (by decide))
 go_wp2_with fail
 refine NM.out.mono ?_
 rintro e V0 ⟨rfl,hQ,hT⟩
 have PV:=hide (PH.out.call hQ hT)
 clear NM hQ hT PH
 have PH:=PV
 clear PV
 have qT:V0.cell? ⟨w.heap.size+1+1,1,none⟩=some (.int .i64 0):=PH.out.T.cell 1
 have qF:=PH.out.T.free 1
 go_upto_region 6 with fail
 have PN:Hid (PS w (V0.setCell ⟨w.heap.size+1+1,1,none⟩ (.int .i64 (beN xs 0 1))) (.slice a xs.length c) _ [.int .i64 1,.int .i64 (beN xs 0 1),.slice none 0 0,.slice none 0 0,.string ⟨#[]⟩,.slice none 0 0,.slice none 0 0,.int .i64 0,.int .i64 0,.slice none 0 0,.bool false,.slice none 0 0,.slice none 0 0]):=PH.out.set 1 _
 clear qT qF PH
 generalize V0.setCell ⟨w.heap.size+1+1,1,none⟩ (.int .i64 (beN xs 0 1))=W1 at *
 have PH:=PN
 clear PN
 have lt:=PH.out.T.lt
 have NM:=hide (takeM_any W1 (w.heap.size+1) g a c xs (0+1) 32 (HR.out.up PH.out.N) PH.out.Q (by omega) (by omega) (by omega))
 go_wp2_with fail
 refine NM.out.mono ?_
 rintro e V2 ⟨rfl,B,hQ,hT⟩
 have PV:=hide (PH.out.call hQ hT)
 obtain ⟨G2,hG⟩:∃ G,W1.heap.size=G:=⟨_,rfl⟩
 rw [hG] at B lt ⊢
 have CG2:Hid (FB (w.heap.size+1+1) V2 G2 (tkB xs (0+1) 32)):=⟨B,lt⟩
 clear NM hQ hT PH B lt hG
 have PH:=PV
 clear PV
 have qT:V2.cell? ⟨w.heap.size+1+1,2,none⟩=some (.slice none 0 0):=PH.out.T.cell 2
 have qF:=PH.out.T.free 2
 go_upto_region 7 with fail
 have PN:Hid (PS w (V2.setCell ⟨w.heap.size+1+1,2,none⟩ (.slice (some ⟨G2,0,none⟩) 32 32)) (.slice a xs.length c) _ [.int .i64 1,.int .i64 (beN xs 0 1),.slice (some ⟨G2,0,none⟩) 32 32,.slice none 0 0,.string ⟨#[]⟩,.slice none 0 0,.slice none 0 0,.int .i64 0,.int .i64 0,.slice none 0 0,.bool false,.slice none 0 0,.slice none 0 0]):=PH.out.set 2 _
 have CG2':=hide (CG2.out.onl (Only.setCell V2 (w.heap.size+1+1) 2 (.slice (some ⟨G2,0,none⟩) 32 32)) (Nat.le_refl _))
 clear CG2
 have CG2:=CG2'
 clear CG2'
 clear qT qF PH
 generalize V2.setCell ⟨w.heap.size+1+1,2,none⟩ (.slice (some ⟨G2,0,none⟩) 32 32)=W3 at *
 have PH:=PN
 clear PN
 have lt:=PH.out.T.lt
 have NM:=hide (takeM_any W3 (w.heap.size+1) g a c xs (0+1+32) 32 (HR.out.up PH.out.N) PH.out.Q (by omega) (by omega) (by omega))
 go_wp2_with fail
 refine NM.out.mono ?_
 rintro e V4 ⟨rfl,B,hQ,hT⟩
 have PV:=hide (PH.out.call hQ hT)
 have CG2':=hide (CG2.out.tch hT (by omega))
 clear CG2
 have CG2:=CG2'
 clear CG2'
 obtain ⟨G3,hG⟩:∃ G,W3.heap.size=G:=⟨_,rfl⟩
 rw [hG] at B lt ⊢
 have CG3:Hid (FB (w.heap.size+1+1) V4 G3 (tkB xs (0+1+32) 32)):=⟨B,lt⟩
 clear NM hQ hT PH B lt hG
 have PH:=PV
 clear PV
 have qT:V4.cell? ⟨w.heap.size+1+1,3,none⟩=some (.slice none 0 0):=PH.out.T.cell 3
 have qF:=PH.out.T.free 3
 go_upto_region 8 with fail
 have PN:Hid (PS w (V4.setCell ⟨w.heap.size+1+1,3,none⟩ (.slice (some ⟨G3,0,none⟩) 32 32)) (.slice a xs.length c) _ [.int .i64 1,.int .i64 (beN xs 0 1),.slice (some ⟨G2,0,none⟩) 32 32,.slice (some ⟨G3,0,none⟩) 32 32,.string ⟨#[]⟩,.slice none 0 0,.slice none 0 0,.int .i64 0,.int .i64 0,.slice none 0 0,.bool false,.slice none 0 0,.slice none 0 0]):=PH.out.set 3 _
 have CG2':=hide (CG2.out.onl (Only.setCell V4 (w.heap.size+1+1) 3 (.slice (some ⟨G3,0,none⟩) 32 32)) (Nat.le_refl _))
 clear CG2
 have CG2:=CG2'
 clear CG2'
 have CG3':=hide (CG3.out.onl (Only.setCell V4 (w.heap.size+1+1) 3 (.slice (some ⟨G3,0,none⟩) 32 32)) (Nat.le_refl _))
 clear CG3
 have CG3:=CG3'
 clear CG3'
 clear qT qF PH
 generalize V4.setCell ⟨w.heap.size+1+1,3,none⟩ (.slice (some ⟨G3,0,none⟩) 32 32)=W5 at *
 have PH:=PN
 clear PN
 obtain ⟨m,hm⟩:=Int.eq_ofNat_of_zero_le (be_byte hb 65 1 (by decide)).1
 have em:Hid ((beN xs 65 1).toNat=m):=by show _=_;omega
 have mb:=be1 hb 65
 rw [em.out] at mb
 have EA:Hid (65+1+m=hpA xs):=by show _=_;rw [← em.out];rfl
 have EB:Hid (ppT xs (hpA xs+1) (xs.getD (hpA xs) 0).toNat=hpB xs):=rfl
 have bA:hpA xs≤400:=by rw [← EA.out];omega
 have bB:hpB xs≤70000:=by have:=ppT_bd hb (hpA xs+1) (xs.getD (hpA xs) 0).toNat;have:=bx1 hb (hpA xs);rw [← EB.out];omega
 obtain ⟨m2,hm2⟩:=Int.eq_ofNat_of_zero_le (be_byte hb (hpB xs) 2 (by decide)).1
 have em2:Hid (hpN xs=m2):=by show (beN xs (hpB xs) 2).toNat=_;omega
 have mb2:=be2 hb (hpB xs)
 rw [show (beN xs (hpB xs) 2).toNat=m2 by omega] at mb2
 have EC:Hid (hpB xs+2+m2=hpC xs):=by show _=_;rw [← em2.out];rfl
 have HM2:=hide hm2
 clear hm2
 have bC:hpC xs≤140000:=by rw [← EC.out];omega
 have NM:=hide (numM_any W5 (w.heap.size+1) g a c xs (0+1+32+32) 1 (HR.out.up PH.out.N) hb PH.out.Q (by omega) (by omega) (by decide))
 rw [show (0+1+32+32:Nat)=65 from rfl,hm] at NM
 clear hm
 go_wp2_with fail
 refine NM.out.mono ?_
 rintro e V6 ⟨rfl,hQ,hT⟩
 have PV:=hide (PH.out.call hQ hT)
 have CG2':=hide (CG2.out.tch hT (by omega))
 clear CG2
 have CG2:=CG2'
 clear CG2'
 have CG3':=hide (CG3.out.tch hT (by omega))
 clear CG3
 have CG3:=CG3'
 clear CG3'
 clear NM hQ hT PH
 have PH:=PV
 clear PV
 have lt:=PH.out.T.lt
 have NM:=hide (takeM_any V6 (w.heap.size+1) g a c xs (65+1) m (HR.out.up PH.out.N) PH.out.Q (by omega) (by omega) (by omega))
 go_wp2_with fail
 refine NM.out.mono ?_
 rintro e V7 ⟨rfl,B,hQ,hT⟩
 have PV:=hide (PH.out.call hQ hT)
 have CG2':=hide (CG2.out.tch hT (by omega))
 clear CG2
 have CG2:=CG2'
 clear CG2'
 have CG3':=hide (CG3.out.tch hT (by omega))
 clear CG3
 have CG3:=CG3'
 clear CG3'
 obtain ⟨GS,hG⟩:∃ G,V6.heap.size=G:=⟨_,rfl⟩
 rw [hG] at B lt ⊢
 have CGS:Hid (FB (w.heap.size+1+1) V7 GS (tkB xs (65+1) m)):=⟨B,lt⟩
 clear NM hQ hT PH B lt hG
 have PH:=PV
 clear PV
 obtain ⟨y,hy⟩:∃ y,Hid (tkB xs (65+1) m=y):=⟨_,rfl⟩
 rw [hy.out] at CGS
 have cv:(convert 22 9 (.slice (some ⟨GS,0,none⟩) m m)).run Tryz.prog V7 = .ok (.string ⟨⟨txB y⟩⟩) V7:=by
  have:=conv_run V7 GS (some ⟨GS,0,none⟩) m y CGS.out.1.own0.rd
  rw [show y.length=m by rw [← hy.out,tkB_len],str_is] at this
  exact this
 obtain ⟨hoT,hho⟩:∃ l,Hid (txB y=l):=⟨_,rfl⟩
 rw [hho.out] at cv
 clear CGS
 have qT:V7.cell? ⟨w.heap.size+1+1,4,none⟩=some (.string ⟨#[]⟩):=PH.out.T.cell 4
 have qF:=PH.out.T.free 4
 go_upto_region 9 with (refine wpList_convT _ rfl 22 9 (.tmp 28) rfl (.slice (some ⟨GS,0,none⟩) m m) rfl _ _ cv ?_)
 have PN:Hid (PS w (V7.setCell ⟨w.heap.size+1+1,4,none⟩ (.string ⟨⟨hoT⟩⟩)) (.slice a xs.length c) _ [.int .i64 1,.int .i64 (beN xs 0 1),.slice (some ⟨G2,0,none⟩) 32 32,.slice (some ⟨G3,0,none⟩) 32 32,.string ⟨⟨hoT⟩⟩,.slice none 0 0,.slice none 0 0,.int .i64 0,.int .i64 0,.slice none 0 0,.bool false,.slice none 0 0,.slice none 0 0]):=PH.out.set 4 _
 have CG2':=hide (CG2.out.onl (Only.setCell V7 (w.heap.size+1+1) 4 (.string ⟨⟨hoT⟩⟩)) (Nat.le_refl _))
 clear CG2
 have CG2:=CG2'
 clear CG2'
 have CG3':=hide (CG3.out.onl (Only.setCell V7 (w.heap.size+1+1) 4 (.string ⟨⟨hoT⟩⟩)) (Nat.le_refl _))
 clear CG3
 have CG3:=CG3'
 clear CG3'
 clear qT qF PH
 generalize V7.setCell ⟨w.heap.size+1+1,4,none⟩ (.string ⟨⟨hoT⟩⟩)=W8 at *
 have PH:=PN
 clear PN
 clear cv
 rw [EA.out] at PH
 have lt:=PH.out.T.lt
 have NM:=hide (takeListM_any W8 (w.heap.size+1) g a c xs (hpA xs) (HR.out.up PH.out.N) hb PH.out.Q (fun h=>by have:=HR.out.lt h;omega) (by omega) (by omega))
 go_wp2_with fail
 refine NM.out.mono ?_
 rintro e V9 ⟨⟨v,rfl,RT⟩,hQ,hT⟩
 have PV:=hide (PH.out.call hQ hT)
 have CG2':=hide (CG2.out.tch hT (by omega))
 clear CG2
 have CG2:=CG2'
 clear CG2'
 have CG3':=hide (CG3.out.tch hT (by omega))
 clear CG3
 have CG3:=CG3'
 clear CG3'
 obtain ⟨ra,rl,rc,hrv⟩:∃ ra rl rc,v = .slice ra rl rc:=by
  rcases RT.2 with ⟨h',_⟩ | ⟨g',cap,cur,h',_⟩
  ·exact ⟨_,_,_,h'⟩
  ·exact ⟨_,_,_,h'⟩
 subst hrv
 have CR:Hid (FR (w.heap.size+1+1) V9 (.slice ra rl rc) (txT xs (hpA xs+1) (xs.getD (hpA xs) 0).toNat)):=RowT.base' RT (by omega)
 clear NM hQ hT PH lt RT
 have PH:=PV
 clear PV
 rw [EB.out] at PH
 have qT:V9.cell? ⟨w.heap.size+1+1,5,none⟩=some (.slice none 0 0):=PH.out.T.cell 5
 have qF:=PH.out.T.free 5
 go_upto_region 10 with fail
 have PN:Hid (PS w (V9.setCell ⟨w.heap.size+1+1,5,none⟩ (.slice ra rl rc)) (.slice a xs.length c) _ [.int .i64 1,.int .i64 (beN xs 0 1),.slice (some ⟨G2,0,none⟩) 32 32,.slice (some ⟨G3,0,none⟩) 32 32,.string ⟨⟨hoT⟩⟩,.slice ra rl rc,.slice none 0 0,.int .i64 0,.int .i64 0,.slice none 0 0,.bool false,.slice none 0 0,.slice none 0 0]):=PH.out.set 5 _
 have CG2':=hide (CG2.out.onl (Only.setCell V9 (w.heap.size+1+1) 5 (.slice ra rl rc)) (Nat.le_refl _))
 clear CG2
 have CG2:=CG2'
 clear CG2'
 have CG3':=hide (CG3.out.onl (Only.setCell V9 (w.heap.size+1+1) 5 (.slice ra rl rc)) (Nat.le_refl _))
 clear CG3
 have CG3:=CG3'
 clear CG3'
 have CR':=hide (CR.out.onl (Only.setCell V9 (w.heap.size+1+1) 5 (.slice ra rl rc)) (Nat.le_refl _))
 clear CR
 have CR:=CR'
 clear CR'
 clear qT qF PH
 generalize V9.setCell ⟨w.heap.size+1+1,5,none⟩ (.slice ra rl rc)=W10 at *
 have PH:=PN
 clear PN
 have NM:=hide (numM_any W10 (w.heap.size+1) g a c xs (hpB xs) 2 (HR.out.up PH.out.N) hb PH.out.Q (by omega) (by omega) (by decide))
 rw [HM2.out] at NM
 go_wp2_with fail
 refine NM.out.mono ?_
 rintro e V11 ⟨rfl,hQ,hT⟩
 have PV:=hide (PH.out.call hQ hT)
 have CG2':=hide (CG2.out.tch hT (by omega))
 clear CG2
 have CG2:=CG2'
 clear CG2'
 have CG3':=hide (CG3.out.tch hT (by omega))
 clear CG3
 have CG3:=CG3'
 clear CG3'
 have CR':=hide (CR.out.tch hT (by omega))
 clear CR
 have CR:=CR'
 clear CR'
 clear NM hQ hT PH
 have PH:=PV
 clear PV
 have lt:=PH.out.T.lt
 have NM:=hide (takeM_any V11 (w.heap.size+1) g a c xs (hpB xs+2) m2 (HR.out.up PH.out.N) PH.out.Q (by omega) (by omega) (by omega))
 go_wp2_with fail
 refine NM.out.mono ?_
 rintro e V12 ⟨rfl,B,hQ,hT⟩
 have PV:=hide (PH.out.call hQ hT)
 have CG2':=hide (CG2.out.tch hT (by omega))
 clear CG2
 have CG2:=CG2'
 clear CG2'
 have CG3':=hide (CG3.out.tch hT (by omega))
 clear CG3
 have CG3:=CG3'
 clear CG3'
 have CR':=hide (CR.out.tch hT (by omega))
 clear CR
 have CR:=CR'
 clear CR'
 obtain ⟨G6,hG⟩:∃ G,V11.heap.size=G:=⟨_,rfl⟩
 rw [hG] at B lt ⊢
 have CG6:Hid (FB (w.heap.size+1+1) V12 G6 (tkB xs (hpB xs+2) m2)):=⟨B,lt⟩
 clear NM hQ hT PH B lt hG
 have PH:=PV
 clear PV
 have qT:V12.cell? ⟨w.heap.size+1+1,6,none⟩=some (.slice none 0 0):=PH.out.T.cell 6
 have qF:=PH.out.T.free 6
 go_upto_region 11 with fail
 have PN:Hid (PS w (V12.setCell ⟨w.heap.size+1+1,6,none⟩ (.slice (some ⟨G6,0,none⟩) m2 m2)) (.slice a xs.length c) _ [.int .i64 1,.int .i64 (beN xs 0 1),.slice (some ⟨G2,0,none⟩) 32 32,.slice (some ⟨G3,0,none⟩) 32 32,.string ⟨⟨hoT⟩⟩,.slice ra rl rc,.slice (some ⟨G6,0,none⟩) m2 m2,.int .i64 0,.int .i64 0,.slice none 0 0,.bool false,.slice none 0 0,.slice none 0 0]):=PH.out.set 6 _
 have CG2':=hide (CG2.out.onl (Only.setCell V12 (w.heap.size+1+1) 6 (.slice (some ⟨G6,0,none⟩) m2 m2)) (Nat.le_refl _))
 clear CG2
 have CG2:=CG2'
 clear CG2'
 have CG3':=hide (CG3.out.onl (Only.setCell V12 (w.heap.size+1+1) 6 (.slice (some ⟨G6,0,none⟩) m2 m2)) (Nat.le_refl _))
 clear CG3
 have CG3:=CG3'
 clear CG3'
 have CR':=hide (CR.out.onl (Only.setCell V12 (w.heap.size+1+1) 6 (.slice (some ⟨G6,0,none⟩) m2 m2)) (Nat.le_refl _))
 clear CR
 have CR:=CR'
 clear CR'
 have CG6':=hide (CG6.out.onl (Only.setCell V12 (w.heap.size+1+1) 6 (.slice (some ⟨G6,0,none⟩) m2 m2)) (Nat.le_refl _))
 clear CG6
 have CG6:=CG6'
 clear CG6'
 clear qT qF PH
 generalize V12.setCell ⟨w.heap.size+1+1,6,none⟩ (.slice (some ⟨G6,0,none⟩) m2 m2)=W13 at *
 have PH:=PN
 clear PN
 rw [EC.out] at PH
 have c6:W13.cell? ⟨w.heap.size+1+1,6,none⟩=some (.slice (some ⟨G6,0,none⟩) m2 m2):=PH.out.T.cell 6
 by_cases hz:m2=0
 ·skip
  have z0:decide ((0:Int) < (m2:Int))=false:=decide_eq_false (by omega)
  go_upto_region 39 with fail
  clear c6 z0
  have RG:=PH.out.T.rangeG
  have THR:=PH.out.U.thereG
  have RR:=World.rangeAt_setCells_same W13 w.heap.size 0 [.int .i64 1,.int .i64 (beN xs 0 1),.slice (some ⟨G2,0,none⟩) 32 32,.slice (some ⟨G3,0,none⟩) 32 32,.string ⟨⟨hoT⟩⟩,.slice ra rl rc,.slice (some ⟨G6,0,none⟩) m2 m2,.int .i64 0,.int .i64 0,.slice none 0 0,.bool false,.slice none 0 0,.slice none 0 0] THR
  have OQ:=only_setG W13 w.heap.size [.int .i64 1,.int .i64 (beN xs 0 1),.slice (some ⟨G2,0,none⟩) 32 32,.slice (some ⟨G3,0,none⟩) 32 32,.string ⟨⟨hoT⟩⟩,.slice ra rl rc,.slice (some ⟨G6,0,none⟩) m2 m2,.int .i64 0,.int .i64 0,.slice none 0 0,.bool false,.slice none 0 0,.slice none 0 0] 0
  have N8:Hid (Below w.heap.size w (W13.setCells w.heap.size 0 [.int .i64 1,.int .i64 (beN xs 0 1),.slice (some ⟨G2,0,none⟩) 32 32,.slice (some ⟨G3,0,none⟩) 32 32,.string ⟨⟨hoT⟩⟩,.slice ra rl rc,.slice (some ⟨G6,0,none⟩) m2 m2,.int .i64 0,.int .i64 0,.slice none 0 0,.bool false,.slice none 0 0,.slice none 0 0])):=PH.out.N.trans (OQ.below (by omega))
  have CG2':=hide (CG2.out.onl OQ (by omega))
  clear CG2
  have CG2:=CG2'
  clear CG2'
  have CG3':=hide (CG3.out.onl OQ (by omega))
  clear CG3
  have CG3:=CG3'
  clear CG3'
  have CR':=hide (CR.out.onl OQ (by omega))
  clear CR
  have CR:=CR'
  clear CR'
  have CG6':=hide (CG6.out.onl OQ (by omega))
  clear CG6
  have CG6:=CG6'
  clear CG6'
  clear OQ PH
  have ON:([.int .i64 1,.int .i64 (beN xs 0 1),.slice (some ⟨G2,0,none⟩) 32 32,.slice (some ⟨G3,0,none⟩) 32 32,.string ⟨⟨hoT⟩⟩,.slice ra rl rc,.slice (some ⟨G6,0,none⟩) m2 m2,.int .i64 0,.int .i64 0,.slice none 0 0,.bool false,.slice none 0 0,.slice none 0 0]:List Value).toArray.all (·.oneCell')=true:=all_oneCell_toArray fun v hv=>by
   simp only [List.mem_cons,List.not_mem_nil,or_false] at hv
   rcases hv with rfl | rfl | rfl | rfl | rfl | rfl | rfl | rfl | rfl | rfl | rfl | rfl | rfl
   all_goals rfl
  obtain ⟨hl,hcc,hzz,gr,hrd,hty⟩:=RowT.rdT CR.out
  have RES:Hid ((∃ p,Ending.returned (.agg #[.int .i64 1,.int .i64 (beN xs 0 1),.slice (some ⟨G2,0,none⟩) 32 32,.slice (some ⟨G3,0,none⟩) 32 32,.string ⟨⟨hoT⟩⟩,.slice ra rl rc,.slice (some ⟨G6,0,none⟩) m2 m2,.int .i64 0,.int .i64 0,.slice none 0 0,.bool false,.slice none 0 0,.slice none 0 0]) = .returned (.agg (mgV p (rdHello xs)))∧HasM (W13.setCells w.heap.size 0 [.int .i64 1,.int .i64 (beN xs 0 1),.slice (some ⟨G2,0,none⟩) 32 32,.slice (some ⟨G3,0,none⟩) 32 32,.string ⟨⟨hoT⟩⟩,.slice ra rl rc,.slice (some ⟨G6,0,none⟩) m2 m2,.int .i64 0,.int .i64 0,.slice none 0 0,.bool false,.slice none 0 0,.slice none 0 0]) p (rdHello xs)∧HasZ p (rdHello xs)∧TyM (W13.setCells w.heap.size 0 [.int .i64 1,.int .i64 (beN xs 0 1),.slice (some ⟨G2,0,none⟩) 32 32,.slice (some ⟨G3,0,none⟩) 32 32,.string ⟨⟨hoT⟩⟩,.slice ra rl rc,.slice (some ⟨G6,0,none⟩) m2 m2,.int .i64 0,.int .i64 0,.slice none 0 0,.bool false,.slice none 0 0,.slice none 0 0]) p (rdHello xs)∧∀ g,g < w.heap.size→NoM g p (rdHello xs))∧Below w.heap.size w (W13.setCells w.heap.size 0 [.int .i64 1,.int .i64 (beN xs 0 1),.slice (some ⟨G2,0,none⟩) 32 32,.slice (some ⟨G3,0,none⟩) 32 32,.string ⟨⟨hoT⟩⟩,.slice ra rl rc,.slice (some ⟨G6,0,none⟩) m2 m2,.int .i64 0,.int .i64 0,.slice none 0 0,.bool false,.slice none 0 0,.slice none 0 0])):=⟨⟨⟨some ⟨G2,0,none⟩,32,G2,some ⟨G3,0,none⟩,32,G3,ra,rc,gr,some ⟨G6,0,none⟩,m2,G6,none,0,0,none,0,0,none,0,0,[]⟩,by rw [hl];simp only [mgV,rdHello,tkB_len,List.length_nil,em2.out,if_pos hz];rw [show txB (tkB xs 66 (beN xs 65 1).toNat)=hoT by rw [em.out,← hho.out,← hy.out]],⟨CG2.out.1.own0.rd,CG3.out.1.own0.rd,hrd,(by show Rd _ _ _ _ (tkB xs (hpB xs+2) (hpN xs));rw [em2.out];exact CG6.out.1.own0.rd),(by show Rd _ _ _ _ (if hpN xs=0 then [] else _);rw [if_pos (by rw [em2.out];exact hz)];exact rd0 _ _ _ _),rdL0 _ _ _ _,rd0 _ _ _ _,hcc⟩,⟨(fun h=>by cases h),(fun h=>by cases h),(fun h=>by cases h),(fun _=>rfl),(fun _=>rfl),fun i hi=>absurd hi (by simp [rdHello])⟩,⟨fun h=>(hty h).1,fun h=>absurd h (by simp [rdHello])⟩,(fun g hg=>⟨(fun _=>by have h2:=CG2.out.2;show G2≠_;omega),(fun _=>by have h2:=CG3.out.2;show G3≠_;omega),(fun h=>by have h2:=(hty h).2;show gr≠_;omega),(fun _=>by have h2:=CG6.out.2;show G6≠_;omega),(fun h=>absurd h (by show ¬ 0 < (if hpN xs=0 then [] else tkB xs (hpC xs+5) 32:List Int).length;rw [if_pos (by rw [em2.out];exact hz)];simp)),(fun h=>absurd h (by simp [rdHello])),(fun i h=>absurd h (by simp [rdHello])),(fun h=>absurd h (by simp [rdHello]))⟩)⟩,N8.out⟩
  clear N8
  clear hl hcc hzz hrd hty
  go_wp2_with (first
   | (refine wpList_load_mid rfl 26 (.tmp 6) rfl (w.heap.size+1+1) 0 rfl [.int .i64 1,.int .i64 (beN xs 0 1),.slice (some ⟨G2,0,none⟩) 32 32,.slice (some ⟨G3,0,none⟩) 32 32,.string ⟨⟨hoT⟩⟩,.slice ra rl rc,.slice (some ⟨G6,0,none⟩) m2 m2,.int .i64 0,.int .i64 0,.slice none 0 0,.bool false,.slice none 0 0,.slice none 0 0] d13 RG hd13 hrow13 iM ?_)
   | (refine wpList_store_mid rfl 26 (.tmp 4) (.tmp 124) rfl w.heap.size 0 #[.int .i64 1,.int .i64 (beN xs 0 1),.slice (some ⟨G2,0,none⟩) 32 32,.slice (some ⟨G3,0,none⟩) 32 32,.string ⟨⟨hoT⟩⟩,.slice ra rl rc,.slice (some ⟨G6,0,none⟩) m2 m2,.int .i64 0,.int .i64 0,.slice none 0 0,.bool false,.slice none 0 0,.slice none 0 0] rfl rfl THR iM ON ?_))
  exact bodyPost_ret (v := .agg #[.int .i64 1,.int .i64 (beN xs 0 1),.slice (some ⟨G2,0,none⟩) 32 32,.slice (some ⟨G3,0,none⟩) 32 32,.string ⟨⟨hoT⟩⟩,.slice ra rl rc,.slice (some ⟨G6,0,none⟩) m2 m2,.int .i64 0,.int .i64 0,.slice none 0 0,.bool false,.slice none 0 0,.slice none 0 0]) (results_cellG Tryz.results30 _ _ w.heap.size _ d13 rfl RR hd13 hrow13 iM) rfl RES.out
 have hpos:0 < m2:=by omega
 have z0:decide ((0:Int) < (m2:Int))=true:=decide_eq_true (by omega)
 go_upto_region 12 with fail
 clear c6 z0
 have NM:=hide (numM_any W13 (w.heap.size+1) g a c xs (hpC xs) 4 (HR.out.up PH.out.N) hb PH.out.Q (by omega) (by omega) (by decide))
 go_wp2_with fail
 refine NM.out.mono ?_
 rintro e V14 ⟨rfl,hQ,hT⟩
 have PV:=hide (PH.out.call hQ hT)
 have CG2':=hide (CG2.out.tch hT (by omega))
 clear CG2
 have CG2:=CG2'
 clear CG2'
 have CG3':=hide (CG3.out.tch hT (by omega))
 clear CG3
 have CG3:=CG3'
 clear CG3'
 have CR':=hide (CR.out.tch hT (by omega))
 clear CR
 have CR:=CR'
 clear CR'
 have CG6':=hide (CG6.out.tch hT (by omega))
 clear CG6
 have CG6:=CG6'
 clear CG6'
 clear NM hQ hT PH
 have PH:=PV
 clear PV
 have qT:V14.cell? ⟨w.heap.size+1+1,7,none⟩=some (.int .i64 0):=PH.out.T.cell 7
 have qF:=PH.out.T.free 7
 go_upto_region 13 with fail
 have PN:Hid (PS w (V14.setCell ⟨w.heap.size+1+1,7,none⟩ (.int .i64 (beN xs (hpC xs) 4))) (.slice a xs.length c) _ [.int .i64 1,.int .i64 (beN xs 0 1),.slice (some ⟨G2,0,none⟩) 32 32,.slice (some ⟨G3,0,none⟩) 32 32,.string ⟨⟨hoT⟩⟩,.slice ra rl rc,.slice (some ⟨G6,0,none⟩) m2 m2,.int .i64 (beN xs (hpC xs) 4),.int .i64 0,.slice none 0 0,.bool false,.slice none 0 0,.slice none 0 0]):=PH.out.set 7 _
 have CG2':=hide (CG2.out.onl (Only.setCell V14 (w.heap.size+1+1) 7 (.int .i64 (beN xs (hpC xs) 4))) (Nat.le_refl _))
 clear CG2
 have CG2:=CG2'
 clear CG2'
 have CG3':=hide (CG3.out.onl (Only.setCell V14 (w.heap.size+1+1) 7 (.int .i64 (beN xs (hpC xs) 4))) (Nat.le_refl _))
 clear CG3
 have CG3:=CG3'
 clear CG3'
 have CR':=hide (CR.out.onl (Only.setCell V14 (w.heap.size+1+1) 7 (.int .i64 (beN xs (hpC xs) 4))) (Nat.le_refl _))
 clear CR
 have CR:=CR'
 clear CR'
 have CG6':=hide (CG6.out.onl (Only.setCell V14 (w.heap.size+1+1) 7 (.int .i64 (beN xs (hpC xs) 4))) (Nat.le_refl _))
 clear CG6
 have CG6:=CG6'
 clear CG6'
 clear qT qF PH
 generalize V14.setCell ⟨w.heap.size+1+1,7,none⟩ (.int .i64 (beN xs (hpC xs) 4))=W15 at *
 have PH:=PN
 clear PN
 have NM:=hide (numM_any W15 (w.heap.size+1) g a c xs (hpC xs+4) 1 (HR.out.up PH.out.N) hb PH.out.Q (by omega) (by omega) (by decide))
 go_wp2_with fail
 refine NM.out.mono ?_
 rintro e V16 ⟨rfl,hQ,hT⟩
 have PV:=hide (PH.out.call hQ hT)
 have CG2':=hide (CG2.out.tch hT (by omega))
 clear CG2
 have CG2:=CG2'
 clear CG2'
 have CG3':=hide (CG3.out.tch hT (by omega))
 clear CG3
 have CG3:=CG3'
 clear CG3'
 have CR':=hide (CR.out.tch hT (by omega))
 clear CR
 have CR:=CR'
 clear CR'
 have CG6':=hide (CG6.out.tch hT (by omega))
 clear CG6
 have CG6:=CG6'
 clear CG6'
 clear NM hQ hT PH
 have PH:=PV
 clear PV
 have qT:V16.cell? ⟨w.heap.size+1+1,8,none⟩=some (.int .i64 0):=PH.out.T.cell 8
 have qF:=PH.out.T.free 8
 go_upto_region 14 with fail
 have PN:Hid (PS w (V16.setCell ⟨w.heap.size+1+1,8,none⟩ (.int .i64 (beN xs (hpC xs+4) 1))) (.slice a xs.length c) _ [.int .i64 1,.int .i64 (beN xs 0 1),.slice (some ⟨G2,0,none⟩) 32 32,.slice (some ⟨G3,0,none⟩) 32 32,.string ⟨⟨hoT⟩⟩,.slice ra rl rc,.slice (some ⟨G6,0,none⟩) m2 m2,.int .i64 (beN xs (hpC xs) 4),.int .i64 (beN xs (hpC xs+4) 1),.slice none 0 0,.bool false,.slice none 0 0,.slice none 0 0]):=PH.out.set 8 _
 have CG2':=hide (CG2.out.onl (Only.setCell V16 (w.heap.size+1+1) 8 (.int .i64 (beN xs (hpC xs+4) 1))) (Nat.le_refl _))
 clear CG2
 have CG2:=CG2'
 clear CG2'
 have CG3':=hide (CG3.out.onl (Only.setCell V16 (w.heap.size+1+1) 8 (.int .i64 (beN xs (hpC xs+4) 1))) (Nat.le_refl _))
 clear CG3
 have CG3:=CG3'
 clear CG3'
 have CR':=hide (CR.out.onl (Only.setCell V16 (w.heap.size+1+1) 8 (.int .i64 (beN xs (hpC xs+4) 1))) (Nat.le_refl _))
 clear CR
 have CR:=CR'
 clear CR'
 have CG6':=hide (CG6.out.onl (Only.setCell V16 (w.heap.size+1+1) 8 (.int .i64 (beN xs (hpC xs+4) 1))) (Nat.le_refl _))
 clear CG6
 have CG6:=CG6'
 clear CG6'
 clear qT qF PH
 generalize V16.setCell ⟨w.heap.size+1+1,8,none⟩ (.int .i64 (beN xs (hpC xs+4) 1))=W17 at *
 have PH:=PN
 clear PN
 have lt:=PH.out.T.lt
 have NM:=hide (takeM_any W17 (w.heap.size+1) g a c xs (hpC xs+4+1) 32 (HR.out.up PH.out.N) PH.out.Q (by omega) (by omega) (by omega))
 go_wp2_with fail
 refine NM.out.mono ?_
 rintro e V18 ⟨rfl,B,hQ,hT⟩
 have PV:=hide (PH.out.call hQ hT)
 have CG2':=hide (CG2.out.tch hT (by omega))
 clear CG2
 have CG2:=CG2'
 clear CG2'
 have CG3':=hide (CG3.out.tch hT (by omega))
 clear CG3
 have CG3:=CG3'
 clear CG3'
 have CR':=hide (CR.out.tch hT (by omega))
 clear CR
 have CR:=CR'
 clear CR'
 have CG6':=hide (CG6.out.tch hT (by omega))
 clear CG6
 have CG6:=CG6'
 clear CG6'
 obtain ⟨G9,hG⟩:∃ G,W17.heap.size=G:=⟨_,rfl⟩
 rw [hG] at B lt ⊢
 have CG9:Hid (FB (w.heap.size+1+1) V18 G9 (tkB xs (hpC xs+4+1) 32)):=⟨B,lt⟩
 clear NM hQ hT PH B lt hG
 have PH:=PV
 clear PV
 have qT:V18.cell? ⟨w.heap.size+1+1,9,none⟩=some (.slice none 0 0):=PH.out.T.cell 9
 have qF:=PH.out.T.free 9
 go_upto_region 39 with fail
 have PN:Hid (PS w (V18.setCell ⟨w.heap.size+1+1,9,none⟩ (.slice (some ⟨G9,0,none⟩) 32 32)) (.slice a xs.length c) _ [.int .i64 1,.int .i64 (beN xs 0 1),.slice (some ⟨G2,0,none⟩) 32 32,.slice (some ⟨G3,0,none⟩) 32 32,.string ⟨⟨hoT⟩⟩,.slice ra rl rc,.slice (some ⟨G6,0,none⟩) m2 m2,.int .i64 (beN xs (hpC xs) 4),.int .i64 (beN xs (hpC xs+4) 1),.slice (some ⟨G9,0,none⟩) 32 32,.bool false,.slice none 0 0,.slice none 0 0]):=PH.out.set 9 _
 have CG2':=hide (CG2.out.onl (Only.setCell V18 (w.heap.size+1+1) 9 (.slice (some ⟨G9,0,none⟩) 32 32)) (Nat.le_refl _))
 clear CG2
 have CG2:=CG2'
 clear CG2'
 have CG3':=hide (CG3.out.onl (Only.setCell V18 (w.heap.size+1+1) 9 (.slice (some ⟨G9,0,none⟩) 32 32)) (Nat.le_refl _))
 clear CG3
 have CG3:=CG3'
 clear CG3'
 have CR':=hide (CR.out.onl (Only.setCell V18 (w.heap.size+1+1) 9 (.slice (some ⟨G9,0,none⟩) 32 32)) (Nat.le_refl _))
 clear CR
 have CR:=CR'
 clear CR'
 have CG6':=hide (CG6.out.onl (Only.setCell V18 (w.heap.size+1+1) 9 (.slice (some ⟨G9,0,none⟩) 32 32)) (Nat.le_refl _))
 clear CG6
 have CG6:=CG6'
 clear CG6'
 have CG9':=hide (CG9.out.onl (Only.setCell V18 (w.heap.size+1+1) 9 (.slice (some ⟨G9,0,none⟩) 32 32)) (Nat.le_refl _))
 clear CG9
 have CG9:=CG9'
 clear CG9'
 clear qT qF PH
 generalize V18.setCell ⟨w.heap.size+1+1,9,none⟩ (.slice (some ⟨G9,0,none⟩) 32 32)=W19 at *
 have PH:=PN
 clear PN
 have RG:=PH.out.T.rangeG
 have THR:=PH.out.U.thereG
 have RR:=World.rangeAt_setCells_same W19 w.heap.size 0 [.int .i64 1,.int .i64 (beN xs 0 1),.slice (some ⟨G2,0,none⟩) 32 32,.slice (some ⟨G3,0,none⟩) 32 32,.string ⟨⟨hoT⟩⟩,.slice ra rl rc,.slice (some ⟨G6,0,none⟩) m2 m2,.int .i64 (beN xs (hpC xs) 4),.int .i64 (beN xs (hpC xs+4) 1),.slice (some ⟨G9,0,none⟩) 32 32,.bool false,.slice none 0 0,.slice none 0 0] THR
 have OQ:=only_setG W19 w.heap.size [.int .i64 1,.int .i64 (beN xs 0 1),.slice (some ⟨G2,0,none⟩) 32 32,.slice (some ⟨G3,0,none⟩) 32 32,.string ⟨⟨hoT⟩⟩,.slice ra rl rc,.slice (some ⟨G6,0,none⟩) m2 m2,.int .i64 (beN xs (hpC xs) 4),.int .i64 (beN xs (hpC xs+4) 1),.slice (some ⟨G9,0,none⟩) 32 32,.bool false,.slice none 0 0,.slice none 0 0] 0
 have N8:Hid (Below w.heap.size w (W19.setCells w.heap.size 0 [.int .i64 1,.int .i64 (beN xs 0 1),.slice (some ⟨G2,0,none⟩) 32 32,.slice (some ⟨G3,0,none⟩) 32 32,.string ⟨⟨hoT⟩⟩,.slice ra rl rc,.slice (some ⟨G6,0,none⟩) m2 m2,.int .i64 (beN xs (hpC xs) 4),.int .i64 (beN xs (hpC xs+4) 1),.slice (some ⟨G9,0,none⟩) 32 32,.bool false,.slice none 0 0,.slice none 0 0])):=PH.out.N.trans (OQ.below (by omega))
 have CG2':=hide (CG2.out.onl OQ (by omega))
 clear CG2
 have CG2:=CG2'
 clear CG2'
 have CG3':=hide (CG3.out.onl OQ (by omega))
 clear CG3
 have CG3:=CG3'
 clear CG3'
 have CR':=hide (CR.out.onl OQ (by omega))
 clear CR
 have CR:=CR'
 clear CR'
 have CG6':=hide (CG6.out.onl OQ (by omega))
 clear CG6
 have CG6:=CG6'
 clear CG6'
 have CG9':=hide (CG9.out.onl OQ (by omega))
 clear CG9
 have CG9:=CG9'
 clear CG9'
 clear OQ PH
 have ON:([.int .i64 1,.int .i64 (beN xs 0 1),.slice (some ⟨G2,0,none⟩) 32 32,.slice (some ⟨G3,0,none⟩) 32 32,.string ⟨⟨hoT⟩⟩,.slice ra rl rc,.slice (some ⟨G6,0,none⟩) m2 m2,.int .i64 (beN xs (hpC xs) 4),.int .i64 (beN xs (hpC xs+4) 1),.slice (some ⟨G9,0,none⟩) 32 32,.bool false,.slice none 0 0,.slice none 0 0]:List Value).toArray.all (·.oneCell')=true:=all_oneCell_toArray fun v hv=>by
  simp only [List.mem_cons,List.not_mem_nil,or_false] at hv
  rcases hv with rfl | rfl | rfl | rfl | rfl | rfl | rfl | rfl | rfl | rfl | rfl | rfl | rfl
  all_goals rfl
 obtain ⟨hl,hcc,hzz,gr,hrd,hty⟩:=RowT.rdT CR.out
 have RES:Hid ((∃ p,Ending.returned (.agg #[.int .i64 1,.int .i64 (beN xs 0 1),.slice (some ⟨G2,0,none⟩) 32 32,.slice (some ⟨G3,0,none⟩) 32 32,.string ⟨⟨hoT⟩⟩,.slice ra rl rc,.slice (some ⟨G6,0,none⟩) m2 m2,.int .i64 (beN xs (hpC xs) 4),.int .i64 (beN xs (hpC xs+4) 1),.slice (some ⟨G9,0,none⟩) 32 32,.bool false,.slice none 0 0,.slice none 0 0]) = .returned (.agg (mgV p (rdHello xs)))∧HasM (W19.setCells w.heap.size 0 [.int .i64 1,.int .i64 (beN xs 0 1),.slice (some ⟨G2,0,none⟩) 32 32,.slice (some ⟨G3,0,none⟩) 32 32,.string ⟨⟨hoT⟩⟩,.slice ra rl rc,.slice (some ⟨G6,0,none⟩) m2 m2,.int .i64 (beN xs (hpC xs) 4),.int .i64 (beN xs (hpC xs+4) 1),.slice (some ⟨G9,0,none⟩) 32 32,.bool false,.slice none 0 0,.slice none 0 0]) p (rdHello xs)∧HasZ p (rdHello xs)∧TyM (W19.setCells w.heap.size 0 [.int .i64 1,.int .i64 (beN xs 0 1),.slice (some ⟨G2,0,none⟩) 32 32,.slice (some ⟨G3,0,none⟩) 32 32,.string ⟨⟨hoT⟩⟩,.slice ra rl rc,.slice (some ⟨G6,0,none⟩) m2 m2,.int .i64 (beN xs (hpC xs) 4),.int .i64 (beN xs (hpC xs+4) 1),.slice (some ⟨G9,0,none⟩) 32 32,.bool false,.slice none 0 0,.slice none 0 0]) p (rdHello xs)∧∀ g,g < w.heap.size→NoM g p (rdHello xs))∧Below w.heap.size w (W19.setCells w.heap.size 0 [.int .i64 1,.int .i64 (beN xs 0 1),.slice (some ⟨G2,0,none⟩) 32 32,.slice (some ⟨G3,0,none⟩) 32 32,.string ⟨⟨hoT⟩⟩,.slice ra rl rc,.slice (some ⟨G6,0,none⟩) m2 m2,.int .i64 (beN xs (hpC xs) 4),.int .i64 (beN xs (hpC xs+4) 1),.slice (some ⟨G9,0,none⟩) 32 32,.bool false,.slice none 0 0,.slice none 0 0])):=⟨⟨⟨some ⟨G2,0,none⟩,32,G2,some ⟨G3,0,none⟩,32,G3,ra,rc,gr,some ⟨G6,0,none⟩,m2,G6,some ⟨G9,0,none⟩,32,G9,none,0,0,none,0,0,[]⟩,by rw [hl];simp only [mgV,rdHello,tkB_len,List.length_nil,em2.out,if_neg hz];rw [show txB (tkB xs 66 (beN xs 65 1).toNat)=hoT by rw [em.out,← hho.out,← hy.out]],⟨CG2.out.1.own0.rd,CG3.out.1.own0.rd,hrd,(by show Rd _ _ _ _ (tkB xs (hpB xs+2) (hpN xs));rw [em2.out];exact CG6.out.1.own0.rd),(by show Rd _ _ _ _ (if hpN xs=0 then [] else _);rw [if_neg (by rw [em2.out];exact hz)];exact CG9.out.1.own0.rd),rdL0 _ _ _ _,rd0 _ _ _ _,hcc⟩,⟨(fun h=>by cases h),(fun h=>by cases h),(fun h=>by cases h),(fun h=>by cases h),(fun _=>rfl),fun i hi=>absurd hi (by simp [rdHello])⟩,⟨fun h=>(hty h).1,fun h=>absurd h (by simp [rdHello])⟩,(fun g hg=>⟨(fun _=>by have h2:=CG2.out.2;show G2≠_;omega),(fun _=>by have h2:=CG3.out.2;show G3≠_;omega),(fun h=>by have h2:=(hty h).2;show gr≠_;omega),(fun _=>by have h2:=CG6.out.2;show G6≠_;omega),(fun _=>by have h2:=CG9.out.2;show G9≠_;omega),(fun h=>absurd h (by simp [rdHello])),(fun i h=>absurd h (by simp [rdHello])),(fun h=>absurd h (by simp [rdHello]))⟩)⟩,N8.out⟩
 clear N8
 clear hl hcc hzz hrd hty
 go_wp2_with (first
  | (refine wpList_load_mid rfl 26 (.tmp 6) rfl (w.heap.size+1+1) 0 rfl [.int .i64 1,.int .i64 (beN xs 0 1),.slice (some ⟨G2,0,none⟩) 32 32,.slice (some ⟨G3,0,none⟩) 32 32,.string ⟨⟨hoT⟩⟩,.slice ra rl rc,.slice (some ⟨G6,0,none⟩) m2 m2,.int .i64 (beN xs (hpC xs) 4),.int .i64 (beN xs (hpC xs+4) 1),.slice (some ⟨G9,0,none⟩) 32 32,.bool false,.slice none 0 0,.slice none 0 0] d13 RG hd13 hrow13 iM ?_)
  | (refine wpList_store_mid rfl 26 (.tmp 4) (.tmp 124) rfl w.heap.size 0 #[.int .i64 1,.int .i64 (beN xs 0 1),.slice (some ⟨G2,0,none⟩) 32 32,.slice (some ⟨G3,0,none⟩) 32 32,.string ⟨⟨hoT⟩⟩,.slice ra rl rc,.slice (some ⟨G6,0,none⟩) m2 m2,.int .i64 (beN xs (hpC xs) 4),.int .i64 (beN xs (hpC xs+4) 1),.slice (some ⟨G9,0,none⟩) 32 32,.bool false,.slice none 0 0,.slice none 0 0] rfl rfl THR iM ON ?_))
 exact bodyPost_ret (v := .agg #[.int .i64 1,.int .i64 (beN xs 0 1),.slice (some ⟨G2,0,none⟩) 32 32,.slice (some ⟨G3,0,none⟩) 32 32,.string ⟨⟨hoT⟩⟩,.slice ra rl rc,.slice (some ⟨G6,0,none⟩) m2 m2,.int .i64 (beN xs (hpC xs) 4),.int .i64 (beN xs (hpC xs+4) 1),.slice (some ⟨G9,0,none⟩) 32 32,.bool false,.slice none 0 0,.slice none 0 0]) (results_cellG Tryz.results30 _ _ w.heap.size _ d13 rfl RR hd13 hrow13 iM) rfl RES.out
end Go.Proofs.YtmmbkkfjiaoeiaaGreat
namespace Go.Proofs.YtmmbkkfjiaoeiaaGreat
open Go Go.RowKit
set_option maxRecDepth 100000 in
set_option maxHeartbeats 8000000 in
theorem parseProof_any (w:World) (g:Nat) (a:Option Addr) (c:Nat) (xs:List Int) (hr:Rd w g a .u8 xs) (_hb:Byt xs) (hx:xs.length≤8192) :
  Calls Tryz.prog 30 #[.int .i64 15,.slice a xs.length c] w fun e w'=>(∃ p,e = .returned (.agg (mgV p (rdProof xs)))∧HasM w' p (rdProof xs)∧HasZ p (rdProof xs)∧TyM w' p (rdProof xs)∧∀ g,g < w.heap.size→NoM g p (rdProof xs))∧Below w.heap.size w w':=by
 have P0:PS w ((((w.alloc (.cells #[.int .i64 0,.int .i64 0,.slice none 0 0,.slice none 0 0,.string ⟨#[]⟩,.slice none 0 0,.slice none 0 0,.int .i64 0,.int .i64 0,.slice none 0 0,.bool false,.slice none 0 0,.slice none 0 0] 26)).alloc (.cells #[.slice a xs.length c,.int .i64 0] 105)).alloc (.cells #[.int .i64 0,.int .i64 0,.slice none 0 0,.slice none 0 0,.string ⟨#[]⟩,.slice none 0 0,.slice none 0 0,.int .i64 0,.int .i64 0,.slice none 0 0,.bool false,.slice none 0 0,.slice none 0 0] 26)).setCells (w.heap.size+1+1) 0 [.int .i64 15,.int .i64 0,.slice none 0 0,.slice none 0 0,.string ⟨#[]⟩,.slice none 0 0,.slice none 0 0,.int .i64 0,.int .i64 0,.slice none 0 0,.bool false,.slice none 0 0,.slice none 0 0]) (.slice a xs.length c) 0 [.int .i64 15,.int .i64 0,.slice none 0 0,.slice none 0 0,.string ⟨#[]⟩,.slice none 0 0,.slice none 0 0,.int .i64 0,.int .i64 0,.slice none 0 0,.bool false,.slice none 0 0,.slice none 0 0]:=PS.start w (.slice a xs.length c) 15
 have THR:(((w.alloc (.cells #[.int .i64 0,.int .i64 0,.slice none 0 0,.slice none 0 0,.string ⟨#[]⟩,.slice none 0 0,.slice none 0 0,.int .i64 0,.int .i64 0,.slice none 0 0,.bool false,.slice none 0 0,.slice none 0 0] 26)).alloc (.cells #[.slice a xs.length c,.int .i64 0] 105)).alloc (.cells #[.int .i64 0,.int .i64 0,.slice none 0 0,.slice none 0 0,.string ⟨#[]⟩,.slice none 0 0,.slice none 0 0,.int .i64 0,.int .i64 0,.slice none 0 0,.bool false,.slice none 0 0,.slice none 0 0] 26)).there (w.heap.size+1+1) 0 13:=PS.room w (.slice a xs.length c)
 obtain ⟨d13,hd13,hrow13⟩:=rowM
 have HR:=hide hr
 clear hr
 go_enter Tryz.func30,Tryz.ntmps30
 go_upto_region 3 with (refine wpList_store_mid rfl 26 (.tmp 6) (.tmp 12) rfl (w.heap.size+1+1) 0 #[.int .i64 15,.int .i64 0,.slice none 0 0,.slice none 0 0,.string ⟨#[]⟩,.slice none 0 0,.slice none 0 0,.int .i64 0,.int .i64 0,.slice none 0 0,.bool false,.slice none 0 0,.slice none 0 0] rfl rfl THR iM (all_oneCell_toArray fun v hv=>by (simp only [List.mem_cons,List.not_mem_nil,or_false] at hv;rcases hv with rfl | rfl | rfl | rfl | rfl | rfl | rfl | rfl | rfl | rfl | rfl | rfl | rfl;all_goals rfl)) ?_)
 have PH:=hide P0
 clear P0 THR
 generalize (((w.alloc (.cells #[.int .i64 0,.int .i64 0,.slice none 0 0,.slice none 0 0,.string ⟨#[]⟩,.slice none 0 0,.slice none 0 0,.int .i64 0,.int .i64 0,.slice none 0 0,.bool false,.slice none 0 0,.slice none 0 0] 26)).alloc (.cells #[.slice a xs.length c,.int .i64 0] 105)).alloc (.cells #[.int .i64 0,.int .i64 0,.slice none 0 0,.slice none 0 0,.string ⟨#[]⟩,.slice none 0 0,.slice none 0 0,.int .i64 0,.int .i64 0,.slice none 0 0,.bool false,.slice none 0 0,.slice none 0 0] 26)).setCells (w.heap.size+1+1) 0 [.int .i64 15,.int .i64 0,.slice none 0 0,.slice none 0 0,.string ⟨#[]⟩,.slice none 0 0,.slice none 0 0,.int .i64 0,.int .i64 0,.slice none 0 0,.bool false,.slice none 0 0,.slice none 0 0]=W0 at *
 have lt:=PH.out.T.lt
 have NM:=hide (takeM_any W0 (w.heap.size+1) g a c xs (0) 64 (HR.out.up PH.out.N) PH.out.Q (by omega) (by omega) (by omega))
 go_wp2_with fail
 refine NM.out.mono ?_
 rintro e V0 ⟨rfl,B,hQ,hT⟩
 have PV:=hide (PH.out.call hQ hT)
 obtain ⟨G12,hG⟩:∃ G,W0.heap.size=G:=⟨_,rfl⟩
 rw [hG] at B lt ⊢
 have CG12:Hid (FB (w.heap.size+1+1) V0 G12 (tkB xs (0) 64)):=⟨B,lt⟩
 clear NM hQ hT PH B lt hG
 have PH:=PV
 clear PV
 have qT:V0.cell? ⟨w.heap.size+1+1,12,none⟩=some (.slice none 0 0):=PH.out.T.cell 12
 have qF:=PH.out.T.free 12
 go_upto_region 39 with fail
 have PN:Hid (PS w (V0.setCell ⟨w.heap.size+1+1,12,none⟩ (.slice (some ⟨G12,0,none⟩) 64 64)) (.slice a xs.length c) _ [.int .i64 15,.int .i64 0,.slice none 0 0,.slice none 0 0,.string ⟨#[]⟩,.slice none 0 0,.slice none 0 0,.int .i64 0,.int .i64 0,.slice none 0 0,.bool false,.slice none 0 0,.slice (some ⟨G12,0,none⟩) 64 64]):=PH.out.set 12 _
 have CG12':=hide (CG12.out.onl (Only.setCell V0 (w.heap.size+1+1) 12 (.slice (some ⟨G12,0,none⟩) 64 64)) (Nat.le_refl _))
 clear CG12
 have CG12:=CG12'
 clear CG12'
 clear qT qF PH
 generalize V0.setCell ⟨w.heap.size+1+1,12,none⟩ (.slice (some ⟨G12,0,none⟩) 64 64)=W1 at *
 have PH:=PN
 clear PN
 have RG:=PH.out.T.rangeG
 have THR:=PH.out.U.thereG
 have RR:=World.rangeAt_setCells_same W1 w.heap.size 0 [.int .i64 15,.int .i64 0,.slice none 0 0,.slice none 0 0,.string ⟨#[]⟩,.slice none 0 0,.slice none 0 0,.int .i64 0,.int .i64 0,.slice none 0 0,.bool false,.slice none 0 0,.slice (some ⟨G12,0,none⟩) 64 64] THR
 have OQ:=only_setG W1 w.heap.size [.int .i64 15,.int .i64 0,.slice none 0 0,.slice none 0 0,.string ⟨#[]⟩,.slice none 0 0,.slice none 0 0,.int .i64 0,.int .i64 0,.slice none 0 0,.bool false,.slice none 0 0,.slice (some ⟨G12,0,none⟩) 64 64] 0
 have N8:Hid (Below w.heap.size w (W1.setCells w.heap.size 0 [.int .i64 15,.int .i64 0,.slice none 0 0,.slice none 0 0,.string ⟨#[]⟩,.slice none 0 0,.slice none 0 0,.int .i64 0,.int .i64 0,.slice none 0 0,.bool false,.slice none 0 0,.slice (some ⟨G12,0,none⟩) 64 64])):=PH.out.N.trans (OQ.below (by omega))
 have CG12':=hide (CG12.out.onl OQ (by omega))
 clear CG12
 have CG12:=CG12'
 clear CG12'
 clear OQ PH
 have ON:([.int .i64 15,.int .i64 0,.slice none 0 0,.slice none 0 0,.string ⟨#[]⟩,.slice none 0 0,.slice none 0 0,.int .i64 0,.int .i64 0,.slice none 0 0,.bool false,.slice none 0 0,.slice (some ⟨G12,0,none⟩) 64 64]:List Value).toArray.all (·.oneCell')=true:=all_oneCell_toArray fun v hv=>by
  simp only [List.mem_cons,List.not_mem_nil,or_false] at hv
  rcases hv with rfl | rfl | rfl | rfl | rfl | rfl | rfl | rfl | rfl | rfl | rfl | rfl | rfl
  all_goals rfl
 have RES:Hid ((∃ p,Ending.returned (.agg #[.int .i64 15,.int .i64 0,.slice none 0 0,.slice none 0 0,.string ⟨#[]⟩,.slice none 0 0,.slice none 0 0,.int .i64 0,.int .i64 0,.slice none 0 0,.bool false,.slice none 0 0,.slice (some ⟨G12,0,none⟩) 64 64]) = .returned (.agg (mgV p (rdProof xs)))∧HasM (W1.setCells w.heap.size 0 [.int .i64 15,.int .i64 0,.slice none 0 0,.slice none 0 0,.string ⟨#[]⟩,.slice none 0 0,.slice none 0 0,.int .i64 0,.int .i64 0,.slice none 0 0,.bool false,.slice none 0 0,.slice (some ⟨G12,0,none⟩) 64 64]) p (rdProof xs)∧HasZ p (rdProof xs)∧TyM (W1.setCells w.heap.size 0 [.int .i64 15,.int .i64 0,.slice none 0 0,.slice none 0 0,.string ⟨#[]⟩,.slice none 0 0,.slice none 0 0,.int .i64 0,.int .i64 0,.slice none 0 0,.bool false,.slice none 0 0,.slice (some ⟨G12,0,none⟩) 64 64]) p (rdProof xs)∧∀ g,g < w.heap.size→NoM g p (rdProof xs))∧Below w.heap.size w (W1.setCells w.heap.size 0 [.int .i64 15,.int .i64 0,.slice none 0 0,.slice none 0 0,.string ⟨#[]⟩,.slice none 0 0,.slice none 0 0,.int .i64 0,.int .i64 0,.slice none 0 0,.bool false,.slice none 0 0,.slice (some ⟨G12,0,none⟩) 64 64])):=⟨⟨⟨none,0,0,none,0,0,none,0,0,none,0,0,none,0,0,none,0,0,some ⟨G12,0,none⟩,64,G12,[]⟩,by simp only [mgV,rdProof,tkB_len,List.length_nil],⟨rd0 _ _ _ _,rd0 _ _ _ _,rdT0 _ _ _,rd0 _ _ _ _,rd0 _ _ _ _,rdL0 _ _ _ _,CG12.out.1.own0.rd,Nat.zero_le _⟩,⟨(fun _=>rfl),(fun _=>rfl),(fun _=>rfl),(fun _=>rfl),(fun h=>by cases h),fun i hi=>absurd hi (by simp [rdProof])⟩,⟨fun h=>absurd h (by simp [rdProof]),fun h=>absurd h (by simp [rdProof])⟩,(fun g hg=>⟨(fun h=>absurd h (by simp [rdProof])),(fun h=>absurd h (by simp [rdProof])),(fun h=>absurd h (by simp [rdProof])),(fun h=>absurd h (by simp [rdProof])),(fun h=>absurd h (by simp [rdProof])),(fun h=>absurd h (by simp [rdProof])),(fun i h=>absurd h (by simp [rdProof])),(fun _=>by have h2:=CG12.out.2;show G12≠_;omega)⟩)⟩,N8.out⟩
 clear N8
 go_wp2_with (first
  | (refine wpList_load_mid rfl 26 (.tmp 6) rfl (w.heap.size+1+1) 0 rfl [.int .i64 15,.int .i64 0,.slice none 0 0,.slice none 0 0,.string ⟨#[]⟩,.slice none 0 0,.slice none 0 0,.int .i64 0,.int .i64 0,.slice none 0 0,.bool false,.slice none 0 0,.slice (some ⟨G12,0,none⟩) 64 64] d13 RG hd13 hrow13 iM ?_)
  | (refine wpList_store_mid rfl 26 (.tmp 4) (.tmp 124) rfl w.heap.size 0 #[.int .i64 15,.int .i64 0,.slice none 0 0,.slice none 0 0,.string ⟨#[]⟩,.slice none 0 0,.slice none 0 0,.int .i64 0,.int .i64 0,.slice none 0 0,.bool false,.slice none 0 0,.slice (some ⟨G12,0,none⟩) 64 64] rfl rfl THR iM ON ?_))
 exact bodyPost_ret (v := .agg #[.int .i64 15,.int .i64 0,.slice none 0 0,.slice none 0 0,.string ⟨#[]⟩,.slice none 0 0,.slice none 0 0,.int .i64 0,.int .i64 0,.slice none 0 0,.bool false,.slice none 0 0,.slice (some ⟨G12,0,none⟩) 64 64]) (results_cellG Tryz.results30 _ _ w.heap.size _ d13 rfl RR hd13 hrow13 iM) rfl RES.out
end Go.Proofs.YtmmbkkfjiaoeiaaGreat
namespace Go.Proofs.YtmmbkkfjiaoeiaaGreat
open Go Go.RowKit
set_option maxRecDepth 100000 in
set_option maxHeartbeats 8000000 in
theorem parseTicket_any (w:World) (g:Nat) (a:Option Addr) (c:Nat) (xs:List Int) (hr:Rd w g a .u8 xs) (hb:Byt xs) (hx:xs.length≤8192) :
  Calls Tryz.prog 30 #[.int .i64 4,.slice a xs.length c] w fun e w'=>(∃ p,e = .returned (.agg (mgV p (rdTicket xs)))∧HasM w' p (rdTicket xs)∧HasZ p (rdTicket xs)∧TyM w' p (rdTicket xs)∧∀ g,g < w.heap.size→NoM g p (rdTicket xs))∧Below w.heap.size w w':=by
 have P0:PS w ((((w.alloc (.cells #[.int .i64 0,.int .i64 0,.slice none 0 0,.slice none 0 0,.string ⟨#[]⟩,.slice none 0 0,.slice none 0 0,.int .i64 0,.int .i64 0,.slice none 0 0,.bool false,.slice none 0 0,.slice none 0 0] 26)).alloc (.cells #[.slice a xs.length c,.int .i64 0] 105)).alloc (.cells #[.int .i64 0,.int .i64 0,.slice none 0 0,.slice none 0 0,.string ⟨#[]⟩,.slice none 0 0,.slice none 0 0,.int .i64 0,.int .i64 0,.slice none 0 0,.bool false,.slice none 0 0,.slice none 0 0] 26)).setCells (w.heap.size+1+1) 0 [.int .i64 4,.int .i64 0,.slice none 0 0,.slice none 0 0,.string ⟨#[]⟩,.slice none 0 0,.slice none 0 0,.int .i64 0,.int .i64 0,.slice none 0 0,.bool false,.slice none 0 0,.slice none 0 0]) (.slice a xs.length c) 0 [.int .i64 4,.int .i64 0,.slice none 0 0,.slice none 0 0,.string ⟨#[]⟩,.slice none 0 0,.slice none 0 0,.int .i64 0,.int .i64 0,.slice none 0 0,.bool false,.slice none 0 0,.slice none 0 0]:=PS.start w (.slice a xs.length c) 4
 have THR:(((w.alloc (.cells #[.int .i64 0,.int .i64 0,.slice none 0 0,.slice none 0 0,.string ⟨#[]⟩,.slice none 0 0,.slice none 0 0,.int .i64 0,.int .i64 0,.slice none 0 0,.bool false,.slice none 0 0,.slice none 0 0] 26)).alloc (.cells #[.slice a xs.length c,.int .i64 0] 105)).alloc (.cells #[.int .i64 0,.int .i64 0,.slice none 0 0,.slice none 0 0,.string ⟨#[]⟩,.slice none 0 0,.slice none 0 0,.int .i64 0,.int .i64 0,.slice none 0 0,.bool false,.slice none 0 0,.slice none 0 0] 26)).there (w.heap.size+1+1) 0 13:=PS.room w (.slice a xs.length c)
 obtain ⟨d13,hd13,hrow13⟩:=rowM
 have HR:=hide hr
 clear hr
 go_enter Tryz.func30,Tryz.ntmps30
 go_upto_region 3 with (refine wpList_store_mid rfl 26 (.tmp 6) (.tmp 12) rfl (w.heap.size+1+1) 0 #[.int .i64 4,.int .i64 0,.slice none 0 0,.slice none 0 0,.string ⟨#[]⟩,.slice none 0 0,.slice none 0 0,.int .i64 0,.int .i64 0,.slice none 0 0,.bool false,.slice none 0 0,.slice none 0 0] rfl rfl THR iM (all_oneCell_toArray fun v hv=>by (simp only [List.mem_cons,List.not_mem_nil,or_false] at hv;rcases hv with rfl | rfl | rfl | rfl | rfl | rfl | rfl | rfl | rfl | rfl | rfl | rfl | rfl;all_goals rfl)) ?_)
 have PH:=hide P0
 clear P0 THR
 generalize (((w.alloc (.cells #[.int .i64 0,.int .i64 0,.slice none 0 0,.slice none 0 0,.string ⟨#[]⟩,.slice none 0 0,.slice none 0 0,.int .i64 0,.int .i64 0,.slice none 0 0,.bool false,.slice none 0 0,.slice none 0 0] 26)).alloc (.cells #[.slice a xs.length c,.int .i64 0] 105)).alloc (.cells #[.int .i64 0,.int .i64 0,.slice none 0 0,.slice none 0 0,.string ⟨#[]⟩,.slice none 0 0,.slice none 0 0,.int .i64 0,.int .i64 0,.slice none 0 0,.bool false,.slice none 0 0,.slice none 0 0] 26)).setCells (w.heap.size+1+1) 0 [.int .i64 4,.int .i64 0,.slice none 0 0,.slice none 0 0,.string ⟨#[]⟩,.slice none 0 0,.slice none 0 0,.int .i64 0,.int .i64 0,.slice none 0 0,.bool false,.slice none 0 0,.slice none 0 0]=W0 at *
 have NM:=hide (numM_any W0 (w.heap.size+1) g a c xs (0) 4 (HR.out.up PH.out.N) hb PH.out.Q (by omega) (by omega) (by decide))
 go_wp2_with fail
 refine NM.out.mono ?_
 rintro e V0 ⟨rfl,hQ,hT⟩
 have PV:=hide (PH.out.call hQ hT)
 clear NM hQ hT PH
 have PH:=PV
 clear PV
 have qT:V0.cell? ⟨w.heap.size+1+1,7,none⟩=some (.int .i64 0):=PH.out.T.cell 7
 have qF:=PH.out.T.free 7
 go_upto_region 22 with fail
 have PN:Hid (PS w (V0.setCell ⟨w.heap.size+1+1,7,none⟩ (.int .i64 (beN xs 0 4))) (.slice a xs.length c) _ [.int .i64 4,.int .i64 0,.slice none 0 0,.slice none 0 0,.string ⟨#[]⟩,.slice none 0 0,.slice none 0 0,.int .i64 (beN xs 0 4),.int .i64 0,.slice none 0 0,.bool false,.slice none 0 0,.slice none 0 0]):=PH.out.set 7 _
 clear qT qF PH
 generalize V0.setCell ⟨w.heap.size+1+1,7,none⟩ (.int .i64 (beN xs 0 4))=W1 at *
 have PH:=PN
 clear PN
 have NM:=hide (numM_any W1 (w.heap.size+1) g a c xs (0+4) 4 (HR.out.up PH.out.N) hb PH.out.Q (by omega) (by omega) (by decide))
 go_wp2_with fail
 refine NM.out.mono ?_
 rintro e V2 ⟨rfl,hQ,hT⟩
 have PV:=hide (PH.out.call hQ hT)
 clear NM hQ hT PH
 have PH:=PV
 clear PV
 have qT:V2.cell? ⟨w.heap.size+1+1,8,none⟩=some (.int .i64 0):=PH.out.T.cell 8
 have qF:=PH.out.T.free 8
 go_upto_region 23 with fail
 have PN:Hid (PS w (V2.setCell ⟨w.heap.size+1+1,8,none⟩ (.int .i64 (beN xs (0+4) 4))) (.slice a xs.length c) _ [.int .i64 4,.int .i64 0,.slice none 0 0,.slice none 0 0,.string ⟨#[]⟩,.slice none 0 0,.slice none 0 0,.int .i64 (beN xs 0 4),.int .i64 (beN xs (0+4) 4),.slice none 0 0,.bool false,.slice none 0 0,.slice none 0 0]):=PH.out.set 8 _
 clear qT qF PH
 generalize V2.setCell ⟨w.heap.size+1+1,8,none⟩ (.int .i64 (beN xs (0+4) 4))=W3 at *
 have PH:=PN
 clear PN
 have lt:=PH.out.T.lt
 have NM:=hide (takeM_any W3 (w.heap.size+1) g a c xs (0+4+4) 32 (HR.out.up PH.out.N) PH.out.Q (by omega) (by omega) (by omega))
 go_wp2_with fail
 refine NM.out.mono ?_
 rintro e V4 ⟨rfl,B,hQ,hT⟩
 have PV:=hide (PH.out.call hQ hT)
 obtain ⟨G2,hG⟩:∃ G,W3.heap.size=G:=⟨_,rfl⟩
 rw [hG] at B lt ⊢
 have CG2:Hid (FB (w.heap.size+1+1) V4 G2 (tkB xs (0+4+4) 32)):=⟨B,lt⟩
 clear NM hQ hT PH B lt hG
 have PH:=PV
 clear PV
 have qT:V4.cell? ⟨w.heap.size+1+1,2,none⟩=some (.slice none 0 0):=PH.out.T.cell 2
 have qF:=PH.out.T.free 2
 go_upto_region 24 with fail
 have PN:Hid (PS w (V4.setCell ⟨w.heap.size+1+1,2,none⟩ (.slice (some ⟨G2,0,none⟩) 32 32)) (.slice a xs.length c) _ [.int .i64 4,.int .i64 0,.slice (some ⟨G2,0,none⟩) 32 32,.slice none 0 0,.string ⟨#[]⟩,.slice none 0 0,.slice none 0 0,.int .i64 (beN xs 0 4),.int .i64 (beN xs (0+4) 4),.slice none 0 0,.bool false,.slice none 0 0,.slice none 0 0]):=PH.out.set 2 _
 have CG2':=hide (CG2.out.onl (Only.setCell V4 (w.heap.size+1+1) 2 (.slice (some ⟨G2,0,none⟩) 32 32)) (Nat.le_refl _))
 clear CG2
 have CG2:=CG2'
 clear CG2'
 clear qT qF PH
 generalize V4.setCell ⟨w.heap.size+1+1,2,none⟩ (.slice (some ⟨G2,0,none⟩) 32 32)=W5 at *
 have PH:=PN
 clear PN
 obtain ⟨m,hm⟩:=Int.eq_ofNat_of_zero_le (be_byte hb 40 2 (by decide)).1
 have em:Hid ((beN xs 40 2).toNat=m):=by show _=_;omega
 have mb:=be2 hb 40
 rw [em.out] at mb
 have NM:=hide (numM_any W5 (w.heap.size+1) g a c xs (0+4+4+32) 2 (HR.out.up PH.out.N) hb PH.out.Q (by omega) (by omega) (by decide))
 rw [show (0+4+4+32:Nat)=40 from rfl,hm] at NM
 clear hm
 go_wp2_with fail
 refine NM.out.mono ?_
 rintro e V6 ⟨rfl,hQ,hT⟩
 have PV:=hide (PH.out.call hQ hT)
 have CG2':=hide (CG2.out.tch hT (by omega))
 clear CG2
 have CG2:=CG2'
 clear CG2'
 clear NM hQ hT PH
 have PH:=PV
 clear PV
 have lt:=PH.out.T.lt
 have NM:=hide (takeM_any V6 (w.heap.size+1) g a c xs (40+2) m (HR.out.up PH.out.N) PH.out.Q (by omega) (by omega) (by omega))
 go_wp2_with fail
 refine NM.out.mono ?_
 rintro e V7 ⟨rfl,B,hQ,hT⟩
 have PV:=hide (PH.out.call hQ hT)
 have CG2':=hide (CG2.out.tch hT (by omega))
 clear CG2
 have CG2:=CG2'
 clear CG2'
 obtain ⟨G6,hG⟩:∃ G,V6.heap.size=G:=⟨_,rfl⟩
 rw [hG] at B lt ⊢
 have CG6:Hid (FB (w.heap.size+1+1) V7 G6 (tkB xs (40+2) m)):=⟨B,lt⟩
 clear NM hQ hT PH B lt hG
 have PH:=PV
 clear PV
 have qT:V7.cell? ⟨w.heap.size+1+1,6,none⟩=some (.slice none 0 0):=PH.out.T.cell 6
 have qF:=PH.out.T.free 6
 go_upto_region 39 with fail
 have PN:Hid (PS w (V7.setCell ⟨w.heap.size+1+1,6,none⟩ (.slice (some ⟨G6,0,none⟩) m m)) (.slice a xs.length c) _ [.int .i64 4,.int .i64 0,.slice (some ⟨G2,0,none⟩) 32 32,.slice none 0 0,.string ⟨#[]⟩,.slice none 0 0,.slice (some ⟨G6,0,none⟩) m m,.int .i64 (beN xs 0 4),.int .i64 (beN xs (0+4) 4),.slice none 0 0,.bool false,.slice none 0 0,.slice none 0 0]):=PH.out.set 6 _
 have CG2':=hide (CG2.out.onl (Only.setCell V7 (w.heap.size+1+1) 6 (.slice (some ⟨G6,0,none⟩) m m)) (Nat.le_refl _))
 clear CG2
 have CG2:=CG2'
 clear CG2'
 have CG6':=hide (CG6.out.onl (Only.setCell V7 (w.heap.size+1+1) 6 (.slice (some ⟨G6,0,none⟩) m m)) (Nat.le_refl _))
 clear CG6
 have CG6:=CG6'
 clear CG6'
 clear qT qF PH
 generalize V7.setCell ⟨w.heap.size+1+1,6,none⟩ (.slice (some ⟨G6,0,none⟩) m m)=W8 at *
 have PH:=PN
 clear PN
 have RG:=PH.out.T.rangeG
 have THR:=PH.out.U.thereG
 have RR:=World.rangeAt_setCells_same W8 w.heap.size 0 [.int .i64 4,.int .i64 0,.slice (some ⟨G2,0,none⟩) 32 32,.slice none 0 0,.string ⟨#[]⟩,.slice none 0 0,.slice (some ⟨G6,0,none⟩) m m,.int .i64 (beN xs 0 4),.int .i64 (beN xs (0+4) 4),.slice none 0 0,.bool false,.slice none 0 0,.slice none 0 0] THR
 have OQ:=only_setG W8 w.heap.size [.int .i64 4,.int .i64 0,.slice (some ⟨G2,0,none⟩) 32 32,.slice none 0 0,.string ⟨#[]⟩,.slice none 0 0,.slice (some ⟨G6,0,none⟩) m m,.int .i64 (beN xs 0 4),.int .i64 (beN xs (0+4) 4),.slice none 0 0,.bool false,.slice none 0 0,.slice none 0 0] 0
 have N8:Hid (Below w.heap.size w (W8.setCells w.heap.size 0 [.int .i64 4,.int .i64 0,.slice (some ⟨G2,0,none⟩) 32 32,.slice none 0 0,.string ⟨#[]⟩,.slice none 0 0,.slice (some ⟨G6,0,none⟩) m m,.int .i64 (beN xs 0 4),.int .i64 (beN xs (0+4) 4),.slice none 0 0,.bool false,.slice none 0 0,.slice none 0 0])):=PH.out.N.trans (OQ.below (by omega))
 have CG2':=hide (CG2.out.onl OQ (by omega))
 clear CG2
 have CG2:=CG2'
 clear CG2'
 have CG6':=hide (CG6.out.onl OQ (by omega))
 clear CG6
 have CG6:=CG6'
 clear CG6'
 clear OQ PH
 have ON:([.int .i64 4,.int .i64 0,.slice (some ⟨G2,0,none⟩) 32 32,.slice none 0 0,.string ⟨#[]⟩,.slice none 0 0,.slice (some ⟨G6,0,none⟩) m m,.int .i64 (beN xs 0 4),.int .i64 (beN xs (0+4) 4),.slice none 0 0,.bool false,.slice none 0 0,.slice none 0 0]:List Value).toArray.all (·.oneCell')=true:=all_oneCell_toArray fun v hv=>by
  simp only [List.mem_cons,List.not_mem_nil,or_false] at hv
  rcases hv with rfl | rfl | rfl | rfl | rfl | rfl | rfl | rfl | rfl | rfl | rfl | rfl | rfl
  all_goals rfl
 have RES:Hid ((∃ p,Ending.returned (.agg #[.int .i64 4,.int .i64 0,.slice (some ⟨G2,0,none⟩) 32 32,.slice none 0 0,.string ⟨#[]⟩,.slice none 0 0,.slice (some ⟨G6,0,none⟩) m m,.int .i64 (beN xs 0 4),.int .i64 (beN xs (0+4) 4),.slice none 0 0,.bool false,.slice none 0 0,.slice none 0 0]) = .returned (.agg (mgV p (rdTicket xs)))∧HasM (W8.setCells w.heap.size 0 [.int .i64 4,.int .i64 0,.slice (some ⟨G2,0,none⟩) 32 32,.slice none 0 0,.string ⟨#[]⟩,.slice none 0 0,.slice (some ⟨G6,0,none⟩) m m,.int .i64 (beN xs 0 4),.int .i64 (beN xs (0+4) 4),.slice none 0 0,.bool false,.slice none 0 0,.slice none 0 0]) p (rdTicket xs)∧HasZ p (rdTicket xs)∧TyM (W8.setCells w.heap.size 0 [.int .i64 4,.int .i64 0,.slice (some ⟨G2,0,none⟩) 32 32,.slice none 0 0,.string ⟨#[]⟩,.slice none 0 0,.slice (some ⟨G6,0,none⟩) m m,.int .i64 (beN xs 0 4),.int .i64 (beN xs (0+4) 4),.slice none 0 0,.bool false,.slice none 0 0,.slice none 0 0]) p (rdTicket xs)∧∀ g,g < w.heap.size→NoM g p (rdTicket xs))∧Below w.heap.size w (W8.setCells w.heap.size 0 [.int .i64 4,.int .i64 0,.slice (some ⟨G2,0,none⟩) 32 32,.slice none 0 0,.string ⟨#[]⟩,.slice none 0 0,.slice (some ⟨G6,0,none⟩) m m,.int .i64 (beN xs 0 4),.int .i64 (beN xs (0+4) 4),.slice none 0 0,.bool false,.slice none 0 0,.slice none 0 0])):=⟨⟨⟨some ⟨G2,0,none⟩,32,G2,none,0,0,none,0,0,some ⟨G6,0,none⟩,m,G6,none,0,0,none,0,0,none,0,0,[]⟩,by simp only [mgV,rdTicket,tkB_len,List.length_nil,em.out],⟨CG2.out.1.own0.rd,rd0 _ _ _ _,rdT0 _ _ _,(by show Rd _ _ _ _ (tkB xs 42 (beN xs 40 2).toNat);rw [em.out];exact CG6.out.1.own0.rd),rd0 _ _ _ _,rdL0 _ _ _ _,rd0 _ _ _ _,Nat.zero_le _⟩,⟨(fun h=>by cases h),(fun _=>rfl),(fun h=>by cases h),(fun _=>rfl),(fun _=>rfl),fun i hi=>absurd hi (by simp [rdTicket])⟩,⟨fun h=>absurd h (by simp [rdTicket]),fun h=>absurd h (by simp [rdTicket])⟩,(fun g hg=>⟨(fun _=>by have h2:=CG2.out.2;show G2≠_;omega),(fun h=>absurd h (by simp [rdTicket])),(fun h=>absurd h (by simp [rdTicket])),(fun _=>by have h2:=CG6.out.2;show G6≠_;omega),(fun h=>absurd h (by simp [rdTicket])),(fun h=>absurd h (by simp [rdTicket])),(fun i h=>absurd h (by simp [rdTicket])),(fun h=>absurd h (by simp [rdTicket]))⟩)⟩,N8.out⟩
 clear N8
 go_wp2_with (first
  | (refine wpList_load_mid rfl 26 (.tmp 6) rfl (w.heap.size+1+1) 0 rfl [.int .i64 4,.int .i64 0,.slice (some ⟨G2,0,none⟩) 32 32,.slice none 0 0,.string ⟨#[]⟩,.slice none 0 0,.slice (some ⟨G6,0,none⟩) m m,.int .i64 (beN xs 0 4),.int .i64 (beN xs (0+4) 4),.slice none 0 0,.bool false,.slice none 0 0,.slice none 0 0] d13 RG hd13 hrow13 iM ?_)
  | (refine wpList_store_mid rfl 26 (.tmp 4) (.tmp 124) rfl w.heap.size 0 #[.int .i64 4,.int .i64 0,.slice (some ⟨G2,0,none⟩) 32 32,.slice none 0 0,.string ⟨#[]⟩,.slice none 0 0,.slice (some ⟨G6,0,none⟩) m m,.int .i64 (beN xs 0 4),.int .i64 (beN xs (0+4) 4),.slice none 0 0,.bool false,.slice none 0 0,.slice none 0 0] rfl rfl THR iM ON ?_))
 exact bodyPost_ret (v := .agg #[.int .i64 4,.int .i64 0,.slice (some ⟨G2,0,none⟩) 32 32,.slice none 0 0,.string ⟨#[]⟩,.slice none 0 0,.slice (some ⟨G6,0,none⟩) m m,.int .i64 (beN xs 0 4),.int .i64 (beN xs (0+4) 4),.slice none 0 0,.bool false,.slice none 0 0,.slice none 0 0]) (results_cellG Tryz.results30 _ _ w.heap.size _ d13 rfl RR hd13 hrow13 iM) rfl RES.out
end Go.Proofs.YtmmbkkfjiaoeiaaGreat
namespace Go.Proofs.YtmmbkkfjiaoeiaaGreat
open Go Go.RowKit
set_option maxRecDepth 100000 in
set_option maxHeartbeats 8000000 in
theorem parseUpdate_any (w:World) (g:Nat) (a:Option Addr) (c:Nat) (xs:List Int) (hr:Rd w g a .u8 xs) (hb:Byt xs) (hx:xs.length≤8192) :
  Calls Tryz.prog 30 #[.int .i64 24,.slice a xs.length c] w fun e w'=>(∃ p,e = .returned (.agg (mgV p (rdUpdate xs)))∧HasM w' p (rdUpdate xs)∧HasZ p (rdUpdate xs)∧TyM w' p (rdUpdate xs)∧∀ g,g < w.heap.size→NoM g p (rdUpdate xs))∧Below w.heap.size w w':=by
 have P0:PS w ((((w.alloc (.cells #[.int .i64 0,.int .i64 0,.slice none 0 0,.slice none 0 0,.string ⟨#[]⟩,.slice none 0 0,.slice none 0 0,.int .i64 0,.int .i64 0,.slice none 0 0,.bool false,.slice none 0 0,.slice none 0 0] 26)).alloc (.cells #[.slice a xs.length c,.int .i64 0] 105)).alloc (.cells #[.int .i64 0,.int .i64 0,.slice none 0 0,.slice none 0 0,.string ⟨#[]⟩,.slice none 0 0,.slice none 0 0,.int .i64 0,.int .i64 0,.slice none 0 0,.bool false,.slice none 0 0,.slice none 0 0] 26)).setCells (w.heap.size+1+1) 0 [.int .i64 24,.int .i64 0,.slice none 0 0,.slice none 0 0,.string ⟨#[]⟩,.slice none 0 0,.slice none 0 0,.int .i64 0,.int .i64 0,.slice none 0 0,.bool false,.slice none 0 0,.slice none 0 0]) (.slice a xs.length c) 0 [.int .i64 24,.int .i64 0,.slice none 0 0,.slice none 0 0,.string ⟨#[]⟩,.slice none 0 0,.slice none 0 0,.int .i64 0,.int .i64 0,.slice none 0 0,.bool false,.slice none 0 0,.slice none 0 0]:=PS.start w (.slice a xs.length c) 24
 have THR:(((w.alloc (.cells #[.int .i64 0,.int .i64 0,.slice none 0 0,.slice none 0 0,.string ⟨#[]⟩,.slice none 0 0,.slice none 0 0,.int .i64 0,.int .i64 0,.slice none 0 0,.bool false,.slice none 0 0,.slice none 0 0] 26)).alloc (.cells #[.slice a xs.length c,.int .i64 0] 105)).alloc (.cells #[.int .i64 0,.int .i64 0,.slice none 0 0,.slice none 0 0,.string ⟨#[]⟩,.slice none 0 0,.slice none 0 0,.int .i64 0,.int .i64 0,.slice none 0 0,.bool false,.slice none 0 0,.slice none 0 0] 26)).there (w.heap.size+1+1) 0 13:=PS.room w (.slice a xs.length c)
 obtain ⟨d13,hd13,hrow13⟩:=rowM
 have HR:=hide hr
 clear hr
 go_enter Tryz.func30,Tryz.ntmps30
 go_upto_region 3 with (refine wpList_store_mid rfl 26 (.tmp 6) (.tmp 12) rfl (w.heap.size+1+1) 0 #[.int .i64 24,.int .i64 0,.slice none 0 0,.slice none 0 0,.string ⟨#[]⟩,.slice none 0 0,.slice none 0 0,.int .i64 0,.int .i64 0,.slice none 0 0,.bool false,.slice none 0 0,.slice none 0 0] rfl rfl THR iM (all_oneCell_toArray fun v hv=>by (simp only [List.mem_cons,List.not_mem_nil,or_false] at hv;rcases hv with rfl | rfl | rfl | rfl | rfl | rfl | rfl | rfl | rfl | rfl | rfl | rfl | rfl;all_goals rfl)) ?_)
 have PH:=hide P0
 clear P0 THR
 generalize (((w.alloc (.cells #[.int .i64 0,.int .i64 0,.slice none 0 0,.slice none 0 0,.string ⟨#[]⟩,.slice none 0 0,.slice none 0 0,.int .i64 0,.int .i64 0,.slice none 0 0,.bool false,.slice none 0 0,.slice none 0 0] 26)).alloc (.cells #[.slice a xs.length c,.int .i64 0] 105)).alloc (.cells #[.int .i64 0,.int .i64 0,.slice none 0 0,.slice none 0 0,.string ⟨#[]⟩,.slice none 0 0,.slice none 0 0,.int .i64 0,.int .i64 0,.slice none 0 0,.bool false,.slice none 0 0,.slice none 0 0] 26)).setCells (w.heap.size+1+1) 0 [.int .i64 24,.int .i64 0,.slice none 0 0,.slice none 0 0,.string ⟨#[]⟩,.slice none 0 0,.slice none 0 0,.int .i64 0,.int .i64 0,.slice none 0 0,.bool false,.slice none 0 0,.slice none 0 0]=W0 at *
 have NM:=hide (numM_any W0 (w.heap.size+1) g a c xs (0) 1 (HR.out.up PH.out.N) hb PH.out.Q (by omega) (by omega) (by decide))
 go_wp2_with fail
 refine NM.out.mono ?_
 rintro e V0 ⟨rfl,hQ,hT⟩
 have PV:=hide (PH.out.call hQ hT)
 clear NM hQ hT PH
 have PH:=PV
 clear PV
 have qT:V0.cell? ⟨w.heap.size+1+1,8,none⟩=some (.int .i64 0):=PH.out.T.cell 8
 have qF:=PH.out.T.free 8
 go_upto_region 39 with fail
 have PN:Hid (PS w (V0.setCell ⟨w.heap.size+1+1,8,none⟩ (.int .i64 (beN xs 0 1))) (.slice a xs.length c) _ [.int .i64 24,.int .i64 0,.slice none 0 0,.slice none 0 0,.string ⟨#[]⟩,.slice none 0 0,.slice none 0 0,.int .i64 0,.int .i64 (beN xs 0 1),.slice none 0 0,.bool false,.slice none 0 0,.slice none 0 0]):=PH.out.set 8 _
 clear qT qF PH
 generalize V0.setCell ⟨w.heap.size+1+1,8,none⟩ (.int .i64 (beN xs 0 1))=W1 at *
 have PH:=PN
 clear PN
 have RG:=PH.out.T.rangeG
 have THR:=PH.out.U.thereG
 have RR:=World.rangeAt_setCells_same W1 w.heap.size 0 [.int .i64 24,.int .i64 0,.slice none 0 0,.slice none 0 0,.string ⟨#[]⟩,.slice none 0 0,.slice none 0 0,.int .i64 0,.int .i64 (beN xs 0 1),.slice none 0 0,.bool false,.slice none 0 0,.slice none 0 0] THR
 have OQ:=only_setG W1 w.heap.size [.int .i64 24,.int .i64 0,.slice none 0 0,.slice none 0 0,.string ⟨#[]⟩,.slice none 0 0,.slice none 0 0,.int .i64 0,.int .i64 (beN xs 0 1),.slice none 0 0,.bool false,.slice none 0 0,.slice none 0 0] 0
 have N8:Hid (Below w.heap.size w (W1.setCells w.heap.size 0 [.int .i64 24,.int .i64 0,.slice none 0 0,.slice none 0 0,.string ⟨#[]⟩,.slice none 0 0,.slice none 0 0,.int .i64 0,.int .i64 (beN xs 0 1),.slice none 0 0,.bool false,.slice none 0 0,.slice none 0 0])):=PH.out.N.trans (OQ.below (by omega))
 clear OQ PH
 have ON:([.int .i64 24,.int .i64 0,.slice none 0 0,.slice none 0 0,.string ⟨#[]⟩,.slice none 0 0,.slice none 0 0,.int .i64 0,.int .i64 (beN xs 0 1),.slice none 0 0,.bool false,.slice none 0 0,.slice none 0 0]:List Value).toArray.all (·.oneCell')=true:=all_oneCell_toArray fun v hv=>by
  simp only [List.mem_cons,List.not_mem_nil,or_false] at hv
  rcases hv with rfl | rfl | rfl | rfl | rfl | rfl | rfl | rfl | rfl | rfl | rfl | rfl | rfl
  all_goals rfl
 have RES:Hid ((∃ p,Ending.returned (.agg #[.int .i64 24,.int .i64 0,.slice none 0 0,.slice none 0 0,.string ⟨#[]⟩,.slice none 0 0,.slice none 0 0,.int .i64 0,.int .i64 (beN xs 0 1),.slice none 0 0,.bool false,.slice none 0 0,.slice none 0 0]) = .returned (.agg (mgV p (rdUpdate xs)))∧HasM (W1.setCells w.heap.size 0 [.int .i64 24,.int .i64 0,.slice none 0 0,.slice none 0 0,.string ⟨#[]⟩,.slice none 0 0,.slice none 0 0,.int .i64 0,.int .i64 (beN xs 0 1),.slice none 0 0,.bool false,.slice none 0 0,.slice none 0 0]) p (rdUpdate xs)∧HasZ p (rdUpdate xs)∧TyM (W1.setCells w.heap.size 0 [.int .i64 24,.int .i64 0,.slice none 0 0,.slice none 0 0,.string ⟨#[]⟩,.slice none 0 0,.slice none 0 0,.int .i64 0,.int .i64 (beN xs 0 1),.slice none 0 0,.bool false,.slice none 0 0,.slice none 0 0]) p (rdUpdate xs)∧∀ g,g < w.heap.size→NoM g p (rdUpdate xs))∧Below w.heap.size w (W1.setCells w.heap.size 0 [.int .i64 24,.int .i64 0,.slice none 0 0,.slice none 0 0,.string ⟨#[]⟩,.slice none 0 0,.slice none 0 0,.int .i64 0,.int .i64 (beN xs 0 1),.slice none 0 0,.bool false,.slice none 0 0,.slice none 0 0])):=⟨⟨⟨none,0,0,none,0,0,none,0,0,none,0,0,none,0,0,none,0,0,none,0,0,[]⟩,rfl,⟨rd0 _ _ _ _,rd0 _ _ _ _,rdT0 _ _ _,rd0 _ _ _ _,rd0 _ _ _ _,rdL0 _ _ _ _,rd0 _ _ _ _,Nat.zero_le _⟩,⟨(fun _=>rfl),(fun _=>rfl),(fun _=>rfl),(fun _=>rfl),(fun _=>rfl),fun i hi=>absurd hi (by simp [rdUpdate])⟩,⟨fun h=>absurd h (by simp [rdUpdate]),fun h=>absurd h (by simp [rdUpdate])⟩,(fun g hg=>⟨(fun h=>absurd h (by simp [rdUpdate])),(fun h=>absurd h (by simp [rdUpdate])),(fun h=>absurd h (by simp [rdUpdate])),(fun h=>absurd h (by simp [rdUpdate])),(fun h=>absurd h (by simp [rdUpdate])),(fun h=>absurd h (by simp [rdUpdate])),(fun i h=>absurd h (by simp [rdUpdate])),(fun h=>absurd h (by simp [rdUpdate]))⟩)⟩,N8.out⟩
 clear N8
 go_wp2_with (first
  | (refine wpList_load_mid rfl 26 (.tmp 6) rfl (w.heap.size+1+1) 0 rfl [.int .i64 24,.int .i64 0,.slice none 0 0,.slice none 0 0,.string ⟨#[]⟩,.slice none 0 0,.slice none 0 0,.int .i64 0,.int .i64 (beN xs 0 1),.slice none 0 0,.bool false,.slice none 0 0,.slice none 0 0] d13 RG hd13 hrow13 iM ?_)
  | (refine wpList_store_mid rfl 26 (.tmp 4) (.tmp 124) rfl w.heap.size 0 #[.int .i64 24,.int .i64 0,.slice none 0 0,.slice none 0 0,.string ⟨#[]⟩,.slice none 0 0,.slice none 0 0,.int .i64 0,.int .i64 (beN xs 0 1),.slice none 0 0,.bool false,.slice none 0 0,.slice none 0 0] rfl rfl THR iM ON ?_))
 exact bodyPost_ret (v := .agg #[.int .i64 24,.int .i64 0,.slice none 0 0,.slice none 0 0,.string ⟨#[]⟩,.slice none 0 0,.slice none 0 0,.int .i64 0,.int .i64 (beN xs 0 1),.slice none 0 0,.bool false,.slice none 0 0,.slice none 0 0]) (results_cellG Tryz.results30 _ _ w.heap.size _ d13 rfl RR hd13 hrow13 iM) rfl RES.out
end Go.Proofs.YtmmbkkfjiaoeiaaGreat
