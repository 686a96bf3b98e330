import Derived.Test.YtmmbkkfjiaoeiaaGreatGVxMbM
import Derived.Test.YtmmbkkfjiaoeiaaGreatGVxMbB
import Derived.Test.YtmmbkkfjiaoeiaaGreatGV2
import Derived.Test.YtmmbkkfjiaoeiaaGreatGV1
import Derived.WalkLawsBesides
import Derived.Laws.Bits64b
import Derived.Deep.RegionHeld3
import Derived.Deep.DeepCutAuto
import Derived.Test.YtmmbkkfjiaoeiaaGreatGV3
namespace Go.Proofs.YtmmbkkfjiaoeiaaGreat
open Go Go.RowKit
set_option maxRecDepth 100000 in
set_option maxHeartbeats 16000000 in
theorem drawMaybe_M {w:World} {s g:Nat} {a:Option Addr} {c:Nat} {xs:List Int} (d:Drm w s g a c xs 0) :
  Calls Tryz.prog 14 #[.pointer (some ⟨s,0,none⟩)] w fun e w'=>∃ u:Int,MsFV w' w.heap.size (mbF xs) e∧u≤0+200∧Drm w' s g a c xs u∧But s w w':=by
 obtain ⟨dR,hdR,hrowR⟩:=rowM
 have ls:=d.S.lt
 have lg:=d.R.lt
 obtain ⟨B,hB⟩:∃ B,B=w.heap.size:=⟨_,rfl⟩
 have D0:Dq w w s g a c xs B 0:=Dq.start d (by omega) (fun h=>by have:=lg h;omega) (by omega)
 have n1:Below w.heap.size w (w.alloc (.cells #[.int .i64 0,.int .i64 0,.slice none 0 0,.slice none 0 0,.string ⟨#[]⟩,.slice none 0 0,.slice none 0 0,.int .i64 0,.int .i64 0,.slice none 0 0,.bool false,.slice none 0 0,.slice none 0 0] 26)):=(Below.refl _ _).alloc (Nat.le_refl _) _
 have Q:RwC (w.alloc (.cells #[.int .i64 0,.int .i64 0,.slice none 0 0,.slice none 0 0,.string ⟨#[]⟩,.slice none 0 0,.slice none 0 0,.int .i64 0,.int .i64 0,.slice none 0 0,.bool false,.slice none 0 0,.slice none 0 0] 26)) w.heap.size [.int .i64 0,.int .i64 0,.slice none 0 0,.slice none 0 0,.string ⟨#[]⟩,.slice none 0 0,.slice none 0 0,.int .i64 0,.int .i64 0,.slice none 0 0,.bool false,.slice none 0 0,.slice none 0 0] 26:=RwC.new w _ _
 have z1:(w.alloc (.cells #[.int .i64 0,.int .i64 0,.slice none 0 0,.slice none 0 0,.string ⟨#[]⟩,.slice none 0 0,.slice none 0 0,.int .i64 0,.int .i64 0,.slice none 0 0,.bool false,.slice none 0 0,.slice none 0 0] 26)).heap.size=w.heap.size+1:=by simp
 have D:=D0.up n1
 have POST:∀ {m:Msg} {v0 v1 v2 v3 v4 v5 v6 v7 v8 v9 v10 v11 v12:Value} {W:World} {u:Int},Hid (MsF W B m v0 v1 v2 v3 v4 v5 v6 v7 v8 v9 v10 v11 v12)→Hid (Dq w W s g a c xs B u)→u≤0+200→Hid (mbF xs=m)→Hid ((∃ u:Int,MsFV W w.heap.size (mbF xs) (.returned (.agg #[v0,v1,v2,v3,v4,v5,v6,v7,v8,v9,v10,v11,v12]))∧u≤0+200∧Drm W s g a c xs u∧But s w W)):=fun {m v0 v1 v2 v3 v4 v5 v6 v7 v8 v9 v10 v11 v12 W u} hm hd hu he=>by
  subst hB
  exact ⟨u,⟨v0,v1,v2,v3,v4,v5,v6,v7,v8,v9,v10,v11,v12,rfl,by rw [he.out];exact hm.out⟩,hu,hd.out.d,hd.out.out⟩
 clear n1 d D0
 go_enter Tryz.func14,Tryz.ntmps14
 go_wp2_with fail
 generalize w.alloc (.cells #[.int .i64 0,.int .i64 0,.slice none 0 0,.slice none 0 0,.string ⟨#[]⟩,.slice none 0 0,.slice none 0 0,.int .i64 0,.int .i64 0,.slice none 0 0,.bool false,.slice none 0 0,.slice none 0 0] 26)=W0 at *
 refine (drawMsg_M D.d (by omega)).mono ?_
 rintro e W1 ⟨mx,ux,emx,⟨v0,v1,v2,v3,v4,v5,v6,v7,v8,v9,v10,v11,v12,rfl,M0⟩,hux,d',b'⟩
 have EMX:=hide emx
 clear emx
 have M1:=M0.base (show B≤W0.heap.size by omega)
 obtain ⟨n0,n1,a2,l2,c2,a3,l3,c3,h4,a5,l5,c5,a6,l6,c6,n7,n8,a9,l9,c9,b10,a11,l11,c11,a12,l12,c12,rfl,rfl,rfl,rfl,rfl,rfl,rfl,rfl,rfl,rfl,rfl,rfl,rfl⟩:=M1.rd.forms
 clear M0
 have zW1:=b'.size
 replace Q:=Q.butM b' (by omega)
 replace D:=D.but b' d'
 clear b' d'
 have n':Below W1.heap.size W1 (W1.alloc (.cells #[.int .i64 n0,.int .i64 n1,.slice a2 l2 c2,.slice a3 l3 c3,.string ⟨⟨h4⟩⟩,.slice a5 l5 c5,.slice a6 l6 c6,.int .i64 n7,.int .i64 n8,.slice a9 l9 c9,.bool b10,.slice a11 l11 c11,.slice a12 l12 c12] 26)):=(Below.refl _ _).alloc (Nat.le_refl _) _
 have T:RwC (W1.alloc (.cells #[.int .i64 n0,.int .i64 n1,.slice a2 l2 c2,.slice a3 l3 c3,.string ⟨⟨h4⟩⟩,.slice a5 l5 c5,.slice a6 l6 c6,.int .i64 n7,.int .i64 n8,.slice a9 l9 c9,.bool b10,.slice a11 l11 c11,.slice a12 l12 c12] 26)) W1.heap.size [.int .i64 n0,.int .i64 n1,.slice a2 l2 c2,.slice a3 l3 c3,.string ⟨⟨h4⟩⟩,.slice a5 l5 c5,.slice a6 l6 c6,.int .i64 n7,.int .i64 n8,.slice a9 l9 c9,.bool b10,.slice a11 l11 c11,.slice a12 l12 c12] 26:=RwC.new _ _ _
 have zW2:(W1.alloc (.cells #[.int .i64 n0,.int .i64 n1,.slice a2 l2 c2,.slice a3 l3 c3,.string ⟨⟨h4⟩⟩,.slice a5 l5 c5,.slice a6 l6 c6,.int .i64 n7,.int .i64 n8,.slice a9 l9 c9,.bool b10,.slice a11 l11 c11,.slice a12 l12 c12] 26)).heap.size=W1.heap.size+1:=by simp
 have p0:=Q.lt
 replace Q:=Q.up n'
 have p1:=D.size
 replace D:=D.up n'
 replace M1:=M1.kp (X:=26) (dgK.up n') (by decide)
 have M:MsO (W1.alloc (.cells #[.int .i64 n0,.int .i64 n1,.slice a2 l2 c2,.slice a3 l3 c3,.string ⟨⟨h4⟩⟩,.slice a5 l5 c5,.slice a6 l6 c6,.int .i64 n7,.int .i64 n8,.slice a9 l9 c9,.bool b10,.slice a11 l11 c11,.slice a12 l12 c12] 26)) B mx (.int .i64 n0) (.int .i64 n1) (.slice a2 l2 c2) (.slice a3 l3 c3) (.string ⟨⟨h4⟩⟩) (.slice a5 l5 c5) (.slice a6 l6 c6) (.int .i64 n7) (.int .i64 n8) (.slice a9 l9 c9) (.bool b10) (.slice a11 l11 c11) (.slice a12 l12 c12):=⟨M1.i0,M1.i1,M1.b2,M1.b3,M1.s4,M1.t5,M1.b6,M1.i7,M1.i8,M1.b9,M1.o10,M1.c11,M1.b12⟩
 clear n' M1
 go_wp2_with fail
 generalize W1.alloc (.cells #[.int .i64 n0,.int .i64 n1,.slice a2 l2 c2,.slice a3 l3 c3,.string ⟨⟨h4⟩⟩,.slice a5 l5 c5,.slice a6 l6 c6,.int .i64 n7,.int .i64 n8,.slice a9 l9 c9,.bool b10,.slice a11 l11 c11,.slice a12 l12 c12] 26)=W2 at *
 refine (chance_M D.d (by omega) (by decide) (by decide)).mono ?_
 rintro e W3 ⟨b3,rfl,eb3,d',b'⟩
 have Eb3:=hide eb3
 clear eb3
 have zW3:=b'.size
 replace T:=T.butM b' (by omega)
 replace M:=M.kp (dgK.but b' D.sB) neM
 replace Q:=Q.butM b' (by omega)
 replace D:=D.but b' d'
 clear b' d'
 cases b3
 case false =>
  have EQ:Hid (mbF xs=mx):=by
   show _=_
   unfold mbF
   simp only [EMX.out]
   exact if_neg (of_decide_eq_false Eb3.out.symm)
  replace M:=M.rd
  have RG:=T.rangeG
  obtain ⟨THR,ONE,RR,MF,DF⟩:=M.fin Q D (by omega)
  clear M D Q T
  go_wp2_with (first | refine wpList_load_mid rfl 26 (.tmp 3) rfl _ 0 rfl _ dR RG hdR hrowR iM ?_ | refine wpList_store_mid rfl 26 (.tmp 2) (.tmp 11) rfl _ 0 _ rfl rfl THR iM ONE ?_)
  refine bodyPost_ret (v := .agg _) (results_cellG Tryz.results14 _ _ _ _ dR rfl RR hdR hrowR iM) rfl ?_
  exact (POST MF DF (by omega) EQ).out
 case true =>
  have RG:=T.rangeG
  go_wp2_with (first | (refine wpList_load_mid rfl 26 (.tmp 3) rfl (W1.heap.size) 0 rfl [.int .i64 n0,.int .i64 n1,.slice a2 l2 c2,.slice a3 l3 c3,.string ⟨⟨h4⟩⟩,.slice a5 l5 c5,.slice a6 l6 c6,.int .i64 n7,.int .i64 n8,.slice a9 l9 c9,.bool b10,.slice a11 l11 c11,.slice a12 l12 c12] dR RG hdR hrowR iM ?_) | fail)
  clear RG
  refine (break_M D.d (by omega) D.sB D.gB (by omega) M).mono ?_
  rintro e W4 ⟨uy,⟨v0,v1,v2,v3,v4,v5,v6,v7,v8,v9,v10,v11,v12,rfl,M3⟩,huy,K3⟩
  have D3:=D.call K3
  have T3:=T.dq K3 (by omega)
  have Q3:=Q.dq K3 (by omega)
  have s3:=K3.size
  obtain ⟨n0x,n1x,a2x,l2x,c2x,a3x,l3x,c3x,h4x,a5x,l5x,c5x,a6x,l6x,c6x,n7x,n8x,a9x,l9x,c9x,b10x,a11x,l11x,c11x,a12x,l12x,c12x,rfl,rfl,rfl,rfl,rfl,rfl,rfl,rfl,rfl,rfl,rfl,rfl,rfl⟩:=M3.forms
  clear D T Q M K3
  have OS:=only_setG W4 (W1.heap.size) [.int .i64 n0x,.int .i64 n1x,.slice a2x l2x c2x,.slice a3x l3x c3x,.string ⟨⟨h4x⟩⟩,.slice a5x l5x c5x,.slice a6x l6x c6x,.int .i64 n7x,.int .i64 n8x,.slice a9x l9x c9x,.bool b10x,.slice a11x l11x c11x,.slice a12x l12x c12x] 0
  have THR:=T3.thereG
  have ONE:=M3.one
  have T:RwC (W4.setCells W1.heap.size 0 [.int .i64 n0x,.int .i64 n1x,.slice a2x l2x c2x,.slice a3x l3x c3x,.string ⟨⟨h4x⟩⟩,.slice a5x l5x c5x,.slice a6x l6x c6x,.int .i64 n7x,.int .i64 n8x,.slice a9x l9x c9x,.bool b10x,.slice a11x l11x c11x,.slice a12x l12x c12x]) (W1.heap.size) [.int .i64 n0x,.int .i64 n1x,.slice a2x l2x c2x,.slice a3x l3x c3x,.string ⟨⟨h4x⟩⟩,.slice a5x l5x c5x,.slice a6x l6x c6x,.int .i64 n7x,.int .i64 n8x,.slice a9x l9x c9x,.bool b10x,.slice a11x l11x c11x,.slice a12x l12x c12x] 26:=RwC.all13 T3
  have M:=M3.kp (dgK.onl OS T3) neM
  have Q:=Q3.onl OS (by omega)
  have D:=D3.onl OS (by omega)
  have zz:=OS.size
  clear OS T3 M3 Q3 D3
  go_upto_region 4 with (first | (refine wpList_store_mid rfl 26 (.tmp 3) (.tmp 10) rfl (W1.heap.size) 0 #[.int .i64 n0x,.int .i64 n1x,.slice a2x l2x c2x,.slice a3x l3x c3x,.string ⟨⟨h4x⟩⟩,.slice a5x l5x c5x,.slice a6x l6x c6x,.int .i64 n7x,.int .i64 n8x,.slice a9x l9x c9x,.bool b10x,.slice a11x l11x c11x,.slice a12x l12x c12x] rfl rfl THR iM ONE ?_) | fail)
  generalize W4.setCells W1.heap.size 0 [.int .i64 n0x,.int .i64 n1x,.slice a2x l2x c2x,.slice a3x l3x c3x,.string ⟨⟨h4x⟩⟩,.slice a5x l5x c5x,.slice a6x l6x c6x,.int .i64 n7x,.int .i64 n8x,.slice a9x l9x c9x,.bool b10x,.slice a11x l11x c11x,.slice a12x l12x c12x]=W5 at *
  clear THR ONE
  have EQ:Hid (mbF xs=brF xs (ux+1) mx):=by
   show _=_
   unfold mbF
   simp only [EMX.out]
   exact if_pos (of_decide_eq_true Eb3.out.symm)
  have RG:=T.rangeG
  obtain ⟨THR,ONE,RR,MF,DF⟩:=M.fin Q D (by omega)
  clear M D Q T
  go_wp2_with (first | refine wpList_load_mid rfl 26 (.tmp 3) rfl _ 0 rfl _ dR RG hdR hrowR iM ?_ | refine wpList_store_mid rfl 26 (.tmp 2) (.tmp 11) rfl _ 0 _ rfl rfl THR iM ONE ?_)
  refine bodyPost_ret (v := .agg _) (results_cellG Tryz.results14 _ _ _ _ dR rfl RR hdR hrowR iM) rfl ?_
  exact (POST MF DF (by omega) EQ).out
end Go.Proofs.YtmmbkkfjiaoeiaaGreat
namespace Go.Proofs.YtmmbkkfjiaoeiaaGreat
open Go Go.RowKit
theorem MsF.baseE {W:World} {B B':Nat} {m:Msg} {v0 v1 v2 v3 v4 v5 v6 v7 v8 v9 v10 v11 v12:Value} (h:MsF W B m v0 v1 v2 v3 v4 v5 v6 v7 v8 v9 v10 v11 v12) (hB:B'≤B):MsF W B' m v0 v1 v2 v3 v4 v5 v6 v7 v8 v9 v10 v11 v12:=by
 have hb:∀ v X,dgB W B v X→dgB W B' v X:=fun v X ⟨R,l⟩=>⟨own_base R hB,l⟩
 obtain ⟨ta,tc,tg,te,t1,t2,t3,t4,t5⟩:=h.t5
 obtain ⟨ca,cc,cg,cps,ce,c1,c2,c3,c4⟩:=h.c11
 exact ⟨h.i0,h.i1,hb _ _ h.b2,hb _ _ h.b3,h.s4,⟨ta,tc,tg,te,t1,t2,t3,t4,fun h0=>⟨by have:=(t5 h0).1;omega,(t5 h0).2⟩⟩,hb _ _ h.b6,h.i7,h.i8,hb _ _ h.b9,h.o10,⟨ca,cc,cg,cps,ce,c1,c2,fun i hi=>⟨(c3 i hi).1,(c3 i hi).2.1,(c3 i hi).2.2.1,fun h0=>⟨by have:=((c3 i hi).2.2.2 h0).1;omega,((c3 i hi).2.2.2 h0).2⟩⟩,fun h0=>⟨by have:=(c4 h0).1;omega,(c4 h0).2⟩⟩,hb _ _ h.b12⟩
set_option maxRecDepth 100000 in
set_option maxHeartbeats 16000000 in
theorem drawEnc_M (w:World) (g:Nat) (a:Option Addr) (c:Nat) (xs:List Int) (hr:Rd w g a .u8 xs) (hb:Byt xs) (hl:xs.length≤4194304) :
  Calls Tryz.prog 4 #[.slice a xs.length c] w fun e w'=>MsFV w' w.heap.size (mbF xs) e∧Below w.heap.size w w':=by
 obtain ⟨dR,hdR,hrowR⟩:=rowM
 have lg:=hr.lt
 have n1:Below w.heap.size w (w.alloc (.cells #[.int .i64 0,.int .i64 0,.slice none 0 0,.slice none 0 0,.string ⟨#[]⟩,.slice none 0 0,.slice none 0 0,.int .i64 0,.int .i64 0,.slice none 0 0,.bool false,.slice none 0 0,.slice none 0 0] 26)):=(Below.refl _ _).alloc (Nat.le_refl _) _
 have Q:RwC (w.alloc (.cells #[.int .i64 0,.int .i64 0,.slice none 0 0,.slice none 0 0,.string ⟨#[]⟩,.slice none 0 0,.slice none 0 0,.int .i64 0,.int .i64 0,.slice none 0 0,.bool false,.slice none 0 0,.slice none 0 0] 26)) w.heap.size [.int .i64 0,.int .i64 0,.slice none 0 0,.slice none 0 0,.string ⟨#[]⟩,.slice none 0 0,.slice none 0 0,.int .i64 0,.int .i64 0,.slice none 0 0,.bool false,.slice none 0 0,.slice none 0 0] 26:=RwC.new w _ _
 have z1:w.heap.size < (w.alloc (.cells #[.int .i64 0,.int .i64 0,.slice none 0 0,.slice none 0 0,.string ⟨#[]⟩,.slice none 0 0,.slice none 0 0,.int .i64 0,.int .i64 0,.slice none 0 0,.bool false,.slice none 0 0,.slice none 0 0] 26)).heap.size:=by simp
 replace hr:=hr.up n1
 go_enter Tryz.func4,Tryz.ntmps4
 go_wp2_with fail
 generalize w.alloc (.cells #[.int .i64 0,.int .i64 0,.slice none 0 0,.slice none 0 0,.string ⟨#[]⟩,.slice none 0 0,.slice none 0 0,.int .i64 0,.int .i64 0,.slice none 0 0,.bool false,.slice none 0 0,.slice none 0 0] 26)=Wa at *
 refine (l1SourceX_any Wa a xs.length c (by omega)).mono ?_
 rintro e w1 ⟨rfl,S1,m1⟩
 obtain ⟨s,hs⟩:∃ s,s=Wa.heap.size:=⟨_,rfl⟩
 have y1:Wa.heap.size < w1.heap.size:=S1.lt
 rw [← hs] at S1 ⊢
 have d:Drm w1 s g a c xs 0:=⟨S1,hr.up m1,fun h=>by have:=lg h;omega,hb,by omega,by omega⟩
 replace Q:=Q.up m1
 have N1:=hide (show Below w.heap.size w w1 from n1.trans (m1.mono (by omega)))
 have ss:w.heap.size < s∧s < w1.heap.size:=by omega
 clear S1 m1 n1 hr hs y1 z1 hb lg
 go_wp2_with fail
 refine (drawMaybe_M d).mono ?_
 rintro e w2 ⟨ux,⟨v0,v1,v2,v3,v4,v5,v6,v7,v8,v9,v10,v11,v12,rfl,M0⟩,hux,d',b'⟩
 have M:=M0.baseE (show w.heap.size≤w1.heap.size by omega)
 obtain ⟨n0,n1,a2,l2,c2,a3,l3,c3,h4,a5,l5,c5,a6,l6,c6,n7,n8,a9,l9,c9,b10,a11,l11,c11,a12,l12,c12,rfl,rfl,rfl,rfl,rfl,rfl,rfl,rfl,rfl,rfl,rfl,rfl,rfl⟩:=M.forms
 replace Q:=Q.butM b' (by omega)
 have N2:=hide (N1.out.trans (b'.below (by omega) (by omega)))
 have THR:=Q.thereG
 have ONE:=M.one
 have OS:=only_setG w2 w.heap.size [.int .i64 n0,.int .i64 n1,.slice a2 l2 c2,.slice a3 l3 c3,.string ⟨⟨h4⟩⟩,.slice a5 l5 c5,.slice a6 l6 c6,.int .i64 n7,.int .i64 n8,.slice a9 l9 c9,.bool b10,.slice a11 l11 c11,.slice a12 l12 c12] 0
 have RQ:RwC (w2.setCells w.heap.size 0 [.int .i64 n0,.int .i64 n1,.slice a2 l2 c2,.slice a3 l3 c3,.string ⟨⟨h4⟩⟩,.slice a5 l5 c5,.slice a6 l6 c6,.int .i64 n7,.int .i64 n8,.slice a9 l9 c9,.bool b10,.slice a11 l11 c11,.slice a12 l12 c12]) w.heap.size [.int .i64 n0,.int .i64 n1,.slice a2 l2 c2,.slice a3 l3 c3,.string ⟨⟨h4⟩⟩,.slice a5 l5 c5,.slice a6 l6 c6,.int .i64 n7,.int .i64 n8,.slice a9 l9 c9,.bool b10,.slice a11 l11 c11,.slice a12 l12 c12] 26:=RwC.all13 Q
 have RR:=RQ.rangeG
 have FIN:=hide (show MsFV (w2.setCells w.heap.size 0 [.int .i64 n0,.int .i64 n1,.slice a2 l2 c2,.slice a3 l3 c3,.string ⟨⟨h4⟩⟩,.slice a5 l5 c5,.slice a6 l6 c6,.int .i64 n7,.int .i64 n8,.slice a9 l9 c9,.bool b10,.slice a11 l11 c11,.slice a12 l12 c12]) w.heap.size (mbF xs) (.returned (.agg #[.int .i64 n0,.int .i64 n1,.slice a2 l2 c2,.slice a3 l3 c3,.string ⟨⟨h4⟩⟩,.slice a5 l5 c5,.slice a6 l6 c6,.int .i64 n7,.int .i64 n8,.slice a9 l9 c9,.bool b10,.slice a11 l11 c11,.slice a12 l12 c12]))∧Below w.heap.size w (w2.setCells w.heap.size 0 [.int .i64 n0,.int .i64 n1,.slice a2 l2 c2,.slice a3 l3 c3,.string ⟨⟨h4⟩⟩,.slice a5 l5 c5,.slice a6 l6 c6,.int .i64 n7,.int .i64 n8,.slice a9 l9 c9,.bool b10,.slice a11 l11 c11,.slice a12 l12 c12]) from ⟨⟨_,_,_,_,_,_,_,_,_,_,_,_,_,rfl,M.kp (dgK.onl OS Q) neM⟩,N2.out.trans (OS.below (Nat.le_refl _))⟩)
 clear RQ OS M M0 Q b' d' d N1 N2
 go_wp2_with (first | (refine wpList_store_mid rfl 26 (.tmp 2) (.tmp 5) rfl (w.heap.size) 0 #[.int .i64 n0,.int .i64 n1,.slice a2 l2 c2,.slice a3 l3 c3,.string ⟨⟨h4⟩⟩,.slice a5 l5 c5,.slice a6 l6 c6,.int .i64 n7,.int .i64 n8,.slice a9 l9 c9,.bool b10,.slice a11 l11 c11,.slice a12 l12 c12] rfl rfl THR iM ONE ?_) | fail)
 refine bodyPost_ret (v := .agg #[.int .i64 n0,.int .i64 n1,.slice a2 l2 c2,.slice a3 l3 c3,.string ⟨⟨h4⟩⟩,.slice a5 l5 c5,.slice a6 l6 c6,.int .i64 n7,.int .i64 n8,.slice a9 l9 c9,.bool b10,.slice a11 l11 c11,.slice a12 l12 c12]) (results_cellG Tryz.results4 _ _ (w.heap.size) _ dR rfl RR hdR hrowR iM) rfl ?_
 exact FIN.out
end Go.Proofs.YtmmbkkfjiaoeiaaGreat
namespace Go.Proofs.YtmmbkkfjiaoeiaaGreat
open Go Go.RowKit
set_option maxHeartbeats 2000000 in
theorem l1NextB_any (w:World) (s g:Nat) (a:Option Addr) (c:Nat) (xs:List Int) (t n:Int) (hs:Src w s a xs.length c t) (hr:Rd w g a .u8 xs) (hne:0 < xs.length→g≠s) (hb:Byt xs) (hl:xs.length≤1048576)
  (t0:0≤t) (t1:t≤1048576) (n0:1≤n) (n1:n≤4611686018427387904) :
  Calls Tryz.prog 29 #[.pointer (some ⟨s,0,none⟩),.int .i64 n] w fun e w'=>∃ r,e = .returned (.int .i64 r)∧(0≤r∧r < n)∧Src w' s a xs.length c (t+1)∧Only s w w':=by
 have c0:=hs.code
 have c1:=hs.at_
 have f1:=hs.free
 have k1:(w.setCell ⟨s,1,none⟩ (.int .i64 (t+1))).cell? ⟨s,1,none⟩=some (.int .i64 (t+1)):=World.cell?_setCell_same _ _ _ hs.at_
 have k0:(w.setCell ⟨s,1,none⟩ (.int .i64 (t+1))).cell? ⟨s,0,none⟩=some (.slice a xs.length c):=by rw [World.cell?_setCell_other (h:=by simp)];exact hs.code
 have tn:decide (n < 1)=false:=by simp;omega
 by_cases h0:xs.length=0
 ·have hk : ((xs.length : Int) == 0) = true := by simp [h0]
  have r0:=Int.emod_nonneg (t*7) (show n≠0 by omega)
  have r1:=Int.emod_lt_of_pos (t*7) (show 0 < n by omega)
  have S:=hs.step (t+1) 0
  have O:=Only.step w s (.int .i64 (t+1)) 0
  clear h0
  go_enter Tryz.func29,Tryz.ntmps29
  go_wp2
  go_ret
  exact ⟨_,rfl,⟨r0,r1⟩,S,O⟩
 ·have hk : ((xs.length : Int) == 0) = false := beq_eq_false_iff_ne.2 (by omega)
  obtain ⟨off,rfl,hc⟩:=hr (by omega)
  have gs:g≠s:=hne (by omega)
  obtain ⟨i1,hi1⟩:=Int.eq_ofNat_of_zero_le (Int.emod_nonneg t (show (xs.length:Int)≠0 by omega))
  have li1:(i1:Int) < (xs.length:Int):=by rw [← hi1];exact Int.emod_lt_of_pos _ (by omega)
  obtain ⟨i2,hi2⟩:=Int.eq_ofNat_of_zero_le (Int.emod_nonneg (t+1) (show (xs.length:Int)≠0 by omega))
  have li2:(i2:Int) < (xs.length:Int):=by rw [← hi2];exact Int.emod_lt_of_pos _ (by omega)
  obtain ⟨q,hq⟩:∃ q,t / (xs.length:Int)=q:=⟨_,rfl⟩
  have q0:0≤q:=by rw [← hq];exact Int.ediv_nonneg t0 (by omega)
  have q1:q≤1048576:=by rw [← hq];exact Int.le_trans (Int.ediv_le_self _ t0) t1
  have x1:(w.setCell ⟨s,1,none⟩ (.int .i64 (t+1))).cell? ⟨g,off+i1,none⟩=some (.int .u8 (xs.getD i1 0)):=by rw [World.cell?_setCell_other (h:=fun e=>gs (by simpa using (congrArg Addr.block e).symm))];exact hc i1 (by omega)
  have x2:(w.setCell ⟨s,1,none⟩ (.int .i64 (t+1))).cell? ⟨g,off+i2,none⟩=some (.int .u8 (xs.getD i2 0)):=by rw [World.cell?_setCell_other (h:=fun e=>gs (by simpa using (congrArg Addr.block e).symm))];exact hc i2 (by omega)
  have b1:=hb i1
  have b2:=hb i2
  have S:=fun m=>hs.step (t+1) m
  have O:=fun m=>Only.step w s (.int .i64 (t+1)) m
  generalize xs.getD i1 0=x at *
  generalize xs.getD i2 0=y at *
  clear hc hs hr h0
  by_cases hn:n≤200
  ·have tn2 : decide (200 < n) = false := by simp; omega
   have r0:=Int.emod_nonneg (x+q*37) (show n≠0 by omega)
   have r1:=Int.emod_lt_of_pos (x+q*37) (show 0 < n by omega)
   clear x2 hi2 li2 b2
   go_enter Tryz.func29,Tryz.ntmps29
   go_wp2
   go_quiet (fail)
   go_wp2
   go_ret
   exact ⟨_,rfl,⟨r0,r1⟩,S _,O _⟩
  ·have tn2 : decide (200 < n) = true := by simp; omega
   have r0:=Int.emod_nonneg ((x+q*37)*251+y*13+t) (show n≠0 by omega)
   have r1:=Int.emod_lt_of_pos ((x+q*37)*251+y*13+t) (show 0 < n by omega)
   go_enter Tryz.func29,Tryz.ntmps29
   go_wp2
   go_quiet (fail)
   go_wp2
   go_quiet (fail)
   go_wp2
   go_ret
   exact ⟨_,rfl,⟨r0,r1⟩,S _,O _⟩
end Go.Proofs.YtmmbkkfjiaoeiaaGreat
namespace Go.Proofs.YtmmbkkfjiaoeiaaGreat
open Go Go.RowKit
theorem RowB.parts {w:World} {base:Nat} {v:Value} {xs:List Int} (h:RowB w base v xs) (h0:0 < xs.length) :
  ∃ (g cap : Nat), v = .slice (some ⟨g, 0, none⟩) xs.length cap ∧ base ≤ g ∧ xs.length ≤ cap ∧ (∀ i, i < xs.length → w.cell? ⟨g, i, none⟩ = some (.int .u8 (xs.getD i 0))) ∧ (∀ i, w.frozen? ⟨g, i, none⟩ = false) ∧
   (∀ i z,i < xs.length→RowB (w.setCell ⟨g,i,none⟩ (.int .u8 z)) base v (xs.set i z))∧(∀ n,n≤xs.length→RowB w base (.slice (some ⟨g,0,none⟩) n cap) (xs.take n)):=by
 obtain ⟨hl,⟨_,h2⟩ | ⟨g,cap,cur,rfl,hb,hg,hn,hm,hs,ht⟩⟩:=h
 ·omega
 ·have hs' : cur.size = cap := by omega
  rw [Nat.mul_one] at ht
  have hcell:∀ i,i < xs.length→cur[i]?=some (.int .u8 (xs.getD i 0)):=fun i hi=>by
   have:=congrArg (fun l=>l[i]?) ht
   simp only [List.getElem?_take,if_pos hi,List.getElem?_map,Array.getElem?_toList] at this
   rw [this,List.getElem?_eq_getElem hi,List.getD_eq_getElem?_getD,List.getElem?_eq_getElem hi]
   rfl
  refine ⟨g,cap,rfl,hb,hn,fun i hi=>?_,fun i=>?_,fun i z hi=>⟨by simp,.inr ⟨g,cap,cur.setIfInBounds i (.int .u8 z),by simp,hb,?_,by simpa using hn,hm,by simpa using hs,?_⟩⟩,fun n hn'=>⟨by simp,.inr ⟨g,cap,cur,by rw [List.length_take,Nat.min_eq_left hn'],hb,hg,by rw [List.length_take];omega,hm,hs,?_⟩⟩⟩
  ·simp [World.cell?,hg,hcell i hi]
  ·simp [World.frozen?,hg]
  ·show (w.heap.modify g _)[g]? = _
   rw [Array.getElem?_modify,if_pos rfl,hg]
   rfl
  ·rw [Nat.mul_one,List.length_set,Array.toList_setIfInBounds,List.take_set,ht,List.map_set]
  ·rw [Nat.mul_one,List.length_take,Nat.min_eq_left hn',List.map_take,← ht,List.take_take,Nat.min_eq_left hn']
theorem byt_setR {ys:List Int} (h:Byt ys) (k:Nat) (z:Int) (h0:0≤z) (h1:z < 256):Byt (ys.set k z):=fun i=>by
 by_cases e:k=i
 ·subst e
  by_cases hl:k < ys.length
  ·rw [getD_set_self _ _ _ hl];exact ⟨h0,h1⟩
  ·rw [List.set_eq_of_length_le (by omega)];exact h k
 ·rw [getD_set_ne _ _ _ _ e];exact h i
theorem byt_takeR {ys:List Int} (h:Byt ys) (k:Nat):Byt (ys.take k):=fun i=>by
 by_cases e:i < k
 ·rw [List.getD_eq_getElem?_getD,List.getElem?_take,if_pos e,← List.getD_eq_getElem?_getD];exact h i
 ·rw [List.getD_eq_getElem?_getD,List.getElem?_take,if_neg e];simp
theorem byt_app1R {ys:List Int} (h:Byt ys) (z:Int) (h0:0≤z) (h1:z < 256):Byt (ys ++ [z]):=fun i=>by
 by_cases c:i < ys.length
 ·rw [List.getD_eq_getElem?_getD,List.getElem?_append_left c,← List.getD_eq_getElem?_getD];exact h i
 ·rw [List.getD_eq_getElem?_getD, List.getElem?_append_right (by omega)]
  by_cases e:i - ys.length=0
  ·rw [e];exact ⟨h0,h1⟩
  ·rw [List.getElem?_eq_none (by simp;omega)];decide
end Go.Proofs.YtmmbkkfjiaoeiaaGreat
namespace Go.Proofs.YtmmbkkfjiaoeiaaGreat
def leap (y:Int):Bool:=decide (y % 400=0) || (decide (y % 4=0) && !decide (y % 100=0))
def mdI (y m:Int):Int:=if m=2 then (if leap y=true then 29 else 28) else if m=4∨m=6∨m=9∨m=11 then 30 else 31
def lyA (y:Int):Int:=(y - 1) / 4 - (y - 1) / 100+(y - 1) / 400
def dyA (y:Int):Int:=365*(y - 1970)+lyA y - 477
def mdS (y:Int):Nat→Int
 | 0=>0
 | k+1=>mdS y k+mdI y (k+1)
def IsDay (d y:Int) (k:Nat) (x:Int):Prop:=1970≤y∧k < 12∧0≤x∧x < mdI y (k+1)∧d=dyA y+mdS y k+x
def dgs (n:Nat) (v:Int):List Int:=fill (fun j=>48+v / 10 ^ (n - 1 - j) % 10) n
theorem dgs_len (n:Nat) (v:Int):(dgs n v).length=n:=fill_len _ _
def dvK (b:List Int):Nat→Int
 | 0=>0
 | k+1=>dvK b k*10+(b.getD k 0 - 48)
def pts (y:Int) (k:Nat) (x s:Int):Int:=((((y*100+(k+1))*100+(x+1))*100+s / 3600)*100+s / 60 % 60)*100+s % 60
def EtIs (t:Int) (L:List Int):Prop:=((0≤t∧t≤253402300799)∧∃ y k x,IsDay (t / 86400) y k x∧L=dgs 14 (pts y k x (t % 86400)) ++ [90])∨(¬ (0≤t∧t≤253402300799)∧L=[])
theorem EtIs.len {t:Int} {L:List Int} (h:EtIs t L):L.length≤15:=by
 rcases h with ⟨_,_,_,_,_,rfl⟩ | ⟨_,rfl⟩
 ·simp [dgs_len]
 ·simp
end Go.Proofs.YtmmbkkfjiaoeiaaGreat
namespace Go.Proofs.YtmmbkkfjiaoeiaaGreat
open Go Go.RowKit
def Bk5 (w:World) (g:Nat) (ys:List Int):Prop:=w.heap[g]?=some (.cells (ys.map (Value.int .u8)).toArray 5 (0,0))
theorem Bk5.of_made {w:World} {base:Nat} {g n:Nat} (h:w.ownsRow base 5 1 (.slice (some ⟨g,0,none⟩) n n) n (madeCells (Value.int .u8 0).cells (n*1)).toList):Bk5 w g (List.replicate n 0):=by
 obtain ⟨t,hb⟩:=Blk.of_made h
 rcases h.2 with ⟨h',_⟩ | ⟨g',cap',cur,h',_,hg,_⟩
 ·simp at h'
 ·simp only [Value.slice.injEq, Option.some.injEq, Addr.mk.injEq, and_true, true_and] at h'
  obtain ⟨rfl,rfl⟩:=h'
  rw [hg] at hb
  simp only [Option.some.injEq,Obj.cells.injEq,and_true] at hb
  show w.heap[g]?=_
  rw [hg,hb.1]
theorem Bk5.store {w:World} {g:Nat} {ys:List Int} (h:Bk5 w g ys) (i:Nat) (z:Int):Bk5 (w.setCell ⟨g,i,none⟩ (.int .u8 z)) g (ys.set i z):=by
 show (w.heap.modify g _)[g]?=_
 rw [Array.getElem?_modify,if_pos rfl,h]
 show some (Obj.cells ((ys.map (Value.int .u8)).toArray.setIfInBounds i (.int .u8 z)) 5 (0,0))=_
 rw [List.setIfInBounds_toArray,List.map_set]
theorem Bk5.row {w:World} {g base:Nat} {ys:List Int} (h:Bk5 w g ys) (hb:base≤g) (hl:ys.length≤1048576):RowB w base (.slice (some ⟨g,0,none⟩) ys.length ys.length) ys:=by
 refine ⟨by simp,.inr ⟨g,ys.length,_,rfl,hb,h,Nat.le_refl _,by unfold maxLen;omega,by simp,?_⟩⟩
 rw [List.take_of_length_le (by simp)]
end Go.Proofs.YtmmbkkfjiaoeiaaGreat
namespace Go.Proofs.YtmmbkkfjiaoeiaaGreat
end Go.Proofs.YtmmbkkfjiaoeiaaGreat
namespace Go.Proofs.YtmmbkkfjiaoeiaaGreat
open Go.RowKit
theorem Rd.dropA {w:World} {g:Nat} {a:Option Addr} {k:IntKind} {xs:List Int} (h:Rd w g a k xs) (n:Nat) (hn:n < xs.length):∃ o,a=some ⟨g,o,none⟩∧Rd w g (some ⟨g,o+n,none⟩) k (xs.drop n):=by
 obtain ⟨o,rfl,hc⟩:=h (by omega)
 refine ⟨o,rfl,fun _=>⟨o+n,rfl,fun i hi=>?_⟩⟩
 rw [List.length_drop] at hi
 rw [Nat.add_assoc,hc (n+i) (by omega),List.getD_eq_getElem?_getD,List.getD_eq_getElem?_getD,List.getElem?_drop]
theorem Rd.takeA {w:World} {g:Nat} {a:Option Addr} {k:IntKind} {xs:List Int} (h:Rd w g a k xs) (n:Nat):Rd w g a k (xs.take n):=fun h0=>by
 rw [List.length_take] at h0
 obtain ⟨o,e,hc⟩:=h (by omega)
 refine ⟨o,e,fun i hi=>?_⟩
 rw [List.length_take] at hi
 rw [hc i (by omega),List.getD_eq_getElem?_getD,List.getD_eq_getElem?_getD,List.getElem?_take,if_pos (by omega)]
end Go.Proofs.YtmmbkkfjiaoeiaaGreat
namespace Go.Proofs.YtmmbkkfjiaoeiaaGreat
open Go Go.RowKit
def Cur (w:World) (p:Nat) (l:Value) (i:Int):Prop:=∃ t,w.heap[p]?=some (.cells #[l,.int .i64 i] t (0,0))
theorem Cur.c0 {w:World} {p:Nat} {l:Value} {i:Int} (h:Cur w p l i):w.cell? ⟨p,0,none⟩=some l:=by
 obtain ⟨t,h⟩:=h
 simp [World.cell?,h]
theorem Cur.c1 {w:World} {p:Nat} {l:Value} {i:Int} (h:Cur w p l i):w.cell? ⟨p,1,none⟩=some (.int .i64 i):=by
 obtain ⟨t,h⟩:=h
 simp [World.cell?,h]
theorem Cur.f1 {w:World} {p:Nat} {l:Value} {i:Int} (h:Cur w p l i):w.frozen? ⟨p,1,none⟩=false:=by
 obtain ⟨t,h⟩:=h
 simp [World.frozen?,h]
theorem Cur.lt {w:World} {p:Nat} {l:Value} {i:Int} (h:Cur w p l i):p < w.heap.size:=by
 obtain ⟨t,h⟩:=h
 exact (Array.getElem?_eq_some_iff.1 h).1
theorem Cur.of_block {w w':World} {p:Nat} {l:Value} {i:Int} (h:Cur w p l i) (hb:w'.heap[p]?=w.heap[p]?):Cur w' p l i:=by
 obtain ⟨t,h⟩:=h
 exact ⟨t,hb.trans h⟩
theorem Cur.up {w w':World} {p:Nat} {l:Value} {i:Int} (h:Cur w p l i) (n:Below w.heap.size w w'):Cur w' p l i:=h.of_block (n.block p h.lt)
theorem Cur.drew {w:World} {p:Nat} {l:Value} {i:Int} (h:Cur w p l i) (n:Nat):Cur (w.drewN n) p l i:=h
theorem Cur.store {w:World} {p:Nat} {l:Value} {i:Int} (h:Cur w p l i) (j:Int):Cur (w.setCell ⟨p,1,none⟩ (.int .i64 j)) p l j:=by
 obtain ⟨t,h⟩:=h
 refine ⟨t,?_⟩
 show (w.heap.modify p _)[p]?=_
 rw [Array.getElem?_modify,if_pos rfl,h]
 rfl
def Tl (w:World) (p:Nat) (x y:Value):Prop:=∃ t,w.heap[p]?=some (.cells #[x,y] t (0,0))
theorem Tl.c0 {w:World} {p:Nat} {x y:Value} (h:Tl w p x y):w.cell? ⟨p,0,none⟩=some x:=by
 obtain ⟨t,h⟩:=h
 simp [World.cell?,h]
theorem Tl.c1 {w:World} {p:Nat} {x y:Value} (h:Tl w p x y):w.cell? ⟨p,1,none⟩=some y:=by
 obtain ⟨t,h⟩:=h
 simp [World.cell?,h]
theorem Tl.fr {w:World} {p:Nat} {x y:Value} (h:Tl w p x y) (i:Nat):w.frozen? ⟨p,i,none⟩=false:=by
 obtain ⟨t,h⟩:=h
 simp [World.frozen?,h]
theorem Tl.lt {w:World} {p:Nat} {x y:Value} (h:Tl w p x y):p < w.heap.size:=by
 obtain ⟨t,h⟩:=h
 exact (Array.getElem?_eq_some_iff.1 h).1
theorem Tl.of_block {w w':World} {p:Nat} {x y:Value} (h:Tl w p x y) (hb:w'.heap[p]?=w.heap[p]?):Tl w' p x y:=by
 obtain ⟨t,h⟩:=h
 exact ⟨t,hb.trans h⟩
theorem Tl.up {w w':World} {p:Nat} {x y:Value} (h:Tl w p x y) (n:Below w.heap.size w w'):Tl w' p x y:=h.of_block (n.block p h.lt)
theorem Tl.only {w w':World} {p q:Nat} {x y:Value} (h:Tl w p x y) (n:Only q w w') (hne:p≠q):Tl w' p x y:=h.of_block (n.block p hne)
theorem Tl.new (w:World) (x y:Value) (t:TypeId):Tl (w.alloc (.cells #[x,y] t)) w.heap.size x y:=by
 refine ⟨t,?_⟩
 show (w.heap.push _)[w.heap.size]?=_
 simp
def Pan (e:Ending):Prop:=∃ t v,e = .panicked [{ v := .iface t v,recovered:=false }]
set_option maxHeartbeats 1000000 in
theorem take_ok (w:World) (p g:Nat) (a:Option Addr) (c:Nat) (xs:List Int) (i:Nat) (hC:Cur w p (.slice a xs.length c) i) (hr:Rd w g a .u8 xs) (hi:i < xs.length) (hn:xs.length≤9223372036854775807) :
  Calls Tryz.prog 70 #[.pointer (some ⟨p,0,none⟩)] w fun e w'=>e = .returned (.int .u8 (xs.getD i 0))∧Cur w' p (.slice a xs.length c) ((i+1:Nat):Int)∧Only p w w':=by
 obtain ⟨off,rfl,hc⟩:=hr (by omega)
 have h1:=hc i hi
 have c0:=hC.c0
 have c1:=hC.c1
 have f1:=hC.f1
 have t1:decide ((i:Int) < 0)=false:=by simp
 have t2:decide ((xs.length:Int)≤(i:Int))=false:=by simp;omega
 have t3:(i:Int) < (xs.length:Int):=by omega
 have K:=fun k=>hide (show Cur ((w.drewN k).setCell ⟨p,1,none⟩ (.int .i64 ((i:Int)+1))) p (.slice (some ⟨g,off,none⟩) xs.length c) ((i+1:Nat):Int) from by have:=(hC.drew k).store ((i:Int)+1);rwa [show ((i:Int)+1)=((i+1:Nat):Int) by omega] at this ⊢)
 generalize xs.getD i 0=x at *
 generalize xs.length=n at *
 clear hc hC
 go_enter Tryz.func70,Tryz.ntmps70
 go_wp2
 go_quiet (fail)
 go_wp2
 go_quiet (fail)
 go_wp2
 go_ret
 exact ⟨rfl,(K _).out,(Only.drewN w p _).trans (Only.setCell _ _ _ _)⟩
set_option maxHeartbeats 1000000 in
theorem take_bad (w:World) (p:Nat) (a:Option Addr) (n c:Nat) (i:Int) (hC:Cur w p (.slice a n c) i) (hi:¬ (0≤i∧i < (n:Int))) :
  Calls Tryz.prog 70 #[.pointer (some ⟨p,0,none⟩)] w fun e w'=>Pan e∧Only p w w':=by
 have c0:=hC.c0
 have c1:=hC.c1
 by_cases c2:i < 0
 ·have t1 : decide (i < 0) = true := by simp; omega
  clear hC hi
  go_enter Tryz.func70,Tryz.ntmps70
  go_wp2
  go_quiet (fail)
  go_wp2
  exact ⟨rfl,⟨_,_,rfl⟩,Only.drewN w p _⟩
 ·have t1 : decide (i < 0) = false := by simp; omega
  have t2:decide ((n:Int)≤i)=true:=by simp;omega
  clear hC hi
  go_enter Tryz.func70,Tryz.ntmps70
  go_wp2
  go_quiet (fail)
  go_wp2
  exact ⟨rfl,⟨_,_,rfl⟩,Only.drewN w p _⟩
end Go.Proofs.YtmmbkkfjiaoeiaaGreat
namespace Go.Proofs.YtmmbkkfjiaoeiaaGreat
end Go.Proofs.YtmmbkkfjiaoeiaaGreat
namespace Go.Proofs.YtmmbkkfjiaoeiaaGreat
open Go Go.RowKit
end Go.Proofs.YtmmbkkfjiaoeiaaGreat
namespace Go.Proofs.YtmmbkkfjiaoeiaaGreat
end Go.Proofs.YtmmbkkfjiaoeiaaGreat
namespace Go.Proofs.YtmmbkkfjiaoeiaaGreat
open Go Go.RowKit
theorem Cur.only {w w':World} {p q:Nat} {l:Value} {i:Int} (h:Cur w p l i) (n:Only q w w') (hne:p≠q):Cur w' p l i:=h.of_block (n.block p hne)
theorem Rd.only {w w':World} {g q:Nat} {a:Option Addr} {k:IntKind} {xs:List Int} (h:Rd w g a k xs) (n:Only q w w') (hne:0 < xs.length→g≠q):Rd w' g a k xs:=by
 by_cases h0:0 < xs.length
 ·exact h.of_block (n.block g (hne h0))
 ·obtain rfl : xs = [] := List.eq_nil_of_length_eq_zero (by omega)
  exact Rd.nil _ _ _ _
end Go.Proofs.YtmmbkkfjiaoeiaaGreat
namespace Go.Proofs.YtmmbkkfjiaoeiaaGreat
open Go Go.RowKit
theorem ofInt64 (v:Int):((BitVec.ofInt 64 v).toNat:Int)=v % 18446744073709551616:=by
 rw [BitVec.toNat_ofInt]
 rw [Int.toNat_of_nonneg (Int.emod_nonneg _ (by decide))]
 rfl
theorem wrap_i64 (n:Int):IntKind.i64.wrap n=(n+9223372036854775808) % 18446744073709551616 - 9223372036854775808:=by
 simp [IntKind.wrap,IntKind.signed,IntKind.bits]
 omega
theorem or_byte (v x:Int) (h0 : -9223372036854775808≤v*256) (h1:v*256 < 9223372036854775808) (x0:0≤x) (x1:x < 256):bits .or .i64 (v*256) x=v*256+x:=by
 have e:bits .or .i64 (v*256) x=IntKind.i64.wrap ((BitVec.ofInt 64 (v*256) ||| BitVec.ofInt 64 x).toNat:Int):=rfl
 rw [e,wrap_i64,BitVec.toNat_or]
 have a:=ofInt64 (v*256)
 have b:=ofInt64 x
 obtain ⟨m,hm⟩:∃ m,(BitVec.ofInt 64 (v*256)).toNat=2 ^ 8*m:=⟨(BitVec.ofInt 64 (v*256)).toNat / 256,by omega⟩
 obtain ⟨y,hy⟩:∃ y,(BitVec.ofInt 64 x).toNat=y:=⟨_,rfl⟩
 rw [hm,hy,← Nat.two_pow_add_eq_or_of_lt (by omega)]
 rw [hm] at a
 rw [hy] at b
 omega
end Go.Proofs.YtmmbkkfjiaoeiaaGreat
namespace Go.Proofs.YtmmbkkfjiaoeiaaGreat
open Go Go.RowKit
structure Kp (p:Nat) (w w':World):Prop where
 os:w'.os=w.os
 tape:w'.tape=w.tape
 output:w'.output=w.output
 size:w.heap.size≤w'.heap.size
 block:∀ k,k < w.heap.size→k≠p→w'.heap[k]?=w.heap[k]?
theorem Kp.refl (p:Nat) (w:World):Kp p w w:=⟨rfl,rfl,rfl,Nat.le_refl _,fun _ _ _=>rfl⟩
theorem Kp.trans {p:Nat} {a b c:World} (h:Kp p a b) (k:Kp p b c):Kp p a c :=
 ⟨k.os.trans h.os,k.tape.trans h.tape,k.output.trans h.output,Nat.le_trans h.size k.size,fun i hi hp=>(k.block i (by have:=h.size;omega) hp).trans (h.block i hi hp)⟩
theorem Only.kp {p:Nat} {w w':World} (h:Only p w w'):Kp p w w':=⟨h.os,h.tape,h.output,Nat.le_of_eq h.size.symm,fun k _ hp=>h.block k hp⟩
theorem below_kp {p:Nat} {w w':World} (h:Below w.heap.size w w'):Kp p w w':=⟨h.os,h.tape,h.output,h.size,fun k hk _=>h.block k hk⟩
theorem Kp.below {p B:Nat} {w w':World} (h:Kp p w w') (hB:B≤p) (hs:B≤w.heap.size):Below B w w' :=
 ⟨h.os,h.tape,h.output,h.size,fun k hk=>h.block k (by omega) (by omega)⟩
theorem Rd.kp {w w':World} {g q:Nat} {a:Option Addr} {k:IntKind} {xs:List Int} (h:Rd w g a k xs) (n:Kp q w w') (hne:0 < xs.length→g≠q):Rd w' g a k xs:=by
 by_cases h0:0 < xs.length
 ·exact h.of_block (n.block g (h.lt h0) (hne h0))
 ·obtain rfl : xs = [] := List.eq_nil_of_length_eq_zero (by omega)
  exact Rd.nil _ _ _ _
theorem Tl.kp {w w':World} {p q:Nat} {x y:Value} (h:Tl w p x y) (n:Kp q w w') (hne:p≠q):Tl w' p x y:=h.of_block (n.block p h.lt hne)
theorem step_copy_ex {P:Program} {ops:Array Oper} {o:Oper} {a:Act} {w:World} {K:Act→World→Prop} {Q:Exit→Act→World→Prop} {E:Prop} (hg:o.guard=none) (s x:Operand) (t tn:TypeId)
  (ho:o.op = .call { callee := .builtin .copy,args := #[s,x],argTypes := #[t,tn] }) (vs vx:Value) (hs:a.eval s=vs) (hx:a.eval x=vx) (v':Value) (w':World)
  (H:(Builtin.copy_ #[t,tn] o.type #[vs,vx]).run P w = .ok v' w') (hK:K (a.put o.dst v') w') :
  if Region.wanted o (yielded ops a.tmps)=true then Oper.wp P o a w K Q else E:=by
 have hw:Region.wanted o (yielded ops a.tmps)=true:=by simp [Region.wanted,hg]
 rw [if_pos hw]
 unfold Oper.wp execOp
 simp only [ho,resolve,invoke,builtin,Sem.run_bind,Sem.run_pure,Result.andThen_ok,List.map_toArray,List.map_cons,List.map_nil,hs,hx,H]
 exact hK
theorem rowU8':(Tryz.prog.info? 5).map (·.size)=some 1:=by kernel_rfl
theorem copy_cut {P : Program} (w : World) (ty rt e : TypeId) (hu : P.underlying ty = some (.slice e)) (hsz : (P.info? e).map (·.size) = some 1) {g : Nat} {k : IntKind} {zs : List Int} (hB : Blk w g k zs)
  (gs:Nat) (sp:Option Addr) (ys:List Int) (hr:Rd w gs sp k ys) (hl:zs.length≤ys.length) (dc sc:Nat) :
  ∃ w2,(Builtin.copy_ #[ty,ty] rt #[.slice (some ⟨g,0,none⟩) zs.length dc,.slice sp ys.length sc]).run P w = .ok (goInt zs.length) w2∧Blk w2 g k (ys.take zs.length)∧Only g w w2:=by
 by_cases h0:0 < zs.length
 ·obtain ⟨off, rfl, hc⟩ := hr (by omega)
  obtain ⟨t,hB⟩:=hB
  have hlt:(ys.take zs.length).length=zs.length:=by rw [List.length_take];omega
  have hrun:=run_copy_row (P:=P) w ty ty rt e g 0 zs.length dc ⟨gs,off,none⟩ ys.length sc _ t ((ys.take zs.length).map (Value.int k)) hu hsz hB (by rw [List.length_map,hlt];exact (Nat.min_eq_right hl).symm)
   (fun j v hj=>by
    have hjl:j < zs.length:=by
     have:=(List.getElem?_eq_some_iff.1 hj).1
     rw [List.length_map,hlt] at this
     exact this
    rw [add_mid,hc j (by omega)]
    rw [List.getElem?_map,List.getElem?_take,if_pos hjl] at hj
    rw [List.getD_eq_getElem?_getD]
    cases hy:ys[j]? with
    | none=>rw [hy] at hj;simp at hj
    | some y=>rw [hy] at hj;simpa using hj) (by rw [List.length_map,hlt];simp) (oneCells _ _)
  rw [List.length_map,hlt] at hrun
  refine ⟨_,hrun,⟨t,?_⟩,⟨rfl,rfl,rfl,by simp,fun i hi=>setRow_other w g i _ hi⟩⟩
  rw [setRow_heap w g _ _ t _ hB]
  simp
 ·obtain rfl : zs = [] := List.eq_nil_of_length_eq_zero (by omega)
  exact ⟨w,run_copy_none (P:=P) w ty ty rt e _ _ _ _ _ _ hu hsz (by simp),by simpa using hB,Only.refl _ _⟩
set_option maxHeartbeats 2000000 in
theorem takeList_mid (w:World) (p g:Nat) (a:Option Addr) (c:Nat) (xs:List Int) (i n:Nat) (hC:Cur w p (.slice a xs.length c) i) (hr:Rd w g a .u8 xs) (hc:xs.length≤c) (hn:xs.length≤1048576) (hi:i < xs.length) (hin:i+n≤xs.length) :
  Calls Tryz.prog 105 #[.pointer (some ⟨p,0,none⟩),.int .i64 (n:Int)] w fun e w'=>e = .returned (.slice (some ⟨w.heap.size,0,none⟩) n n)∧Blk w' w.heap.size .u8 ((xs.drop i).take n)∧Cur w' p (.slice a xs.length c) ((i+n:Nat):Int)∧Kp p w w':=by
 obtain ⟨i0,hi0,hz0,hz1,hz2⟩:=info_parts Tryz.info5
 have c0:=hC.c0
 have c1:=hC.c1
 have pl:=hC.lt
 have t1:decide ((xs.length:Int) - (i:Int) < (n:Int))=false:=by simp;omega
 have q0:(n:Int)≤1048576:=by omega
 go_enter Tryz.func105,Tryz.ntmps105
 go_wp2
 go_quiet (fail)
 go_upto_region 4 with (at_make;refine wpList_make_full _ rfl _ _ 22 rfl w.heap.size 5 i0 (.int .u8 0) 1 Tryz.underlying22 hi0 hz0 hz1 .i64 .i64 _ _ n rfl rfl rfl rfl (by rw [hz2];omega) (by unfold maxLen;omega) (Nat.le_refl _) ?_;intro w3 hown hgrow)
 have B3:=Blk.of_made hown
 have n3:Below w.heap.size w w3:=(below_drewN (Below.refl _ _) nq).grown hgrow (Nat.le_refl _) (by simp)
 clear hown hgrow
 have z3:=n3.size
 have B3:Blk w3 w.heap.size .u8 (List.replicate n 0):=B3
 have l3:=B3.lt
 have C3:=hC.up n3
 have R3:=hr.up n3
 obtain ⟨off,rfl,RR⟩:=R3.dropA i hi
 obtain ⟨w4,hcp,B4,O4⟩:=copy_cut (P:=Tryz.prog) w3.drew 22 3 5 Tryz.underlying22 rowU8' B3.drew g (some ⟨g,off+i,none⟩) (xs.drop i) (RR.of_block rfl) (by rw [List.length_replicate,List.length_drop];omega) n (c - i)
 rw [List.length_replicate] at hcp B4
 rw [List.length_drop] at hcp
 have C4:=Cur.only (w:=w3.drew) C3 O4 (by omega)
 have d0:=C3.c0
 have d1:=C3.c1
 have e0:=C4.c0
 have e1:=C4.c1
 have f1:=C4.f1
 have C5:=C4.store ((i:Int)+(n:Int))
 have N5:Kp p w (w4.setCell ⟨p,1,none⟩ (.int .i64 ((i:Int)+(n:Int)))):=(below_kp (n3.drew.trans (O4.below (Nat.le_refl _)))).trans (Only.setCell _ _ _ _).kp
 have B5:Blk (w4.setCell ⟨p,1,none⟩ (.int .i64 ((i:Int)+(n:Int)))) w.heap.size .u8 ((xs.drop i).take n):=B4.of_block ((Only.setCell w4 p 1 _).block _ (by omega))
 have ci:¬ (c=i):=by omega
 have j1:(i:Int)≤(xs.length:Int):=by omega
 have j2:(i:Int)≤(c:Int):=by omega
 have WR:IntKind.i64.wrap ((i:Int)+(n:Int))=(i:Int)+(n:Int):=by rw [wrap_i64];omega
 generalize hm:xs.length=m at *
 have HM:=hide hm
 clear hm
 go_region_with (first | (refine step_copy_ex rfl (.tmp 25) (.tmp 34) 22 22 rfl _ _ rfl rfl _ _ hcp ?_) | fail)
 all_goals
  go_wp2
  go_ret
  exact ⟨rfl,B5,by rw [show ((i+n:Nat):Int)=(i:Int)+(n:Int) by omega,HM.out];exact C5,N5⟩
end Go.Proofs.YtmmbkkfjiaoeiaaGreat
namespace Go.Proofs.YtmmbkkfjiaoeiaaGreat
open Go Go.RowKit
theorem drop_getD (b:List Int) (i j:Nat):(b.drop i).getD j 0=b.getD (i+j) 0:=by
 rw [List.getD_eq_getElem?_getD,List.getD_eq_getElem?_getD,List.getElem?_drop]
def DgA (b:List Int) (i n:Nat):Prop:=i+n≤b.length∧∀ j,j < n→48≤b.getD (i+j) 0∧b.getD (i+j) 0≤57
theorem DgA.bd {b:List Int} {i n:Nat} (h:DgA b i n):∀ j,j≤n→0≤dvK (b.drop i) j∧dvK (b.drop i) j < 10 ^ j
  | 0,_=>by simp [dvK]
  | j + 1, hj => by
    have ih:=h.bd j (by omega)
    have hx:=h.2 j (by omega)
    show 0≤dvK (b.drop i) j*10+((b.drop i).getD j 0 - 48)∧dvK (b.drop i) j*10+((b.drop i).getD j 0 - 48) < _
    rw [drop_getD,Int.pow_succ]
    omega
theorem DgA.step {b:List Int} {i j:Nat} (h:DgA b i j) (h1:i+j < b.length) (h2:48≤b.getD (i+j) 0) (h3:b.getD (i+j) 0≤57):DgA b i (j+1):=⟨by omega,fun k hk=>by
 by_cases e:k=j
 ·subst e;exact ⟨h2,h3⟩
 ·exact h.2 k (by omega)⟩
end Go.Proofs.YtmmbkkfjiaoeiaaGreat
namespace Go.Proofs.YtmmbkkfjiaoeiaaGreat
open Go Go.RowKit
end Go.Proofs.YtmmbkkfjiaoeiaaGreat
namespace Go.Proofs.YtmmbkkfjiaoeiaaGreat
open Go Go.RowKit
theorem Rd.src {w w':World} {g q:Nat} {a:Option Addr} {k:IntKind} {xs:List Int} (h:Rd w g a k xs) (n:Only q w w') (hne:0 < xs.length→g≠q):Rd w' g a k xs:=h.only n hne
end Go.Proofs.YtmmbkkfjiaoeiaaGreat
namespace Go.Proofs.YtmmbkkfjiaoeiaaGreat
open Go Go.RowKit
end Go.Proofs.YtmmbkkfjiaoeiaaGreat
