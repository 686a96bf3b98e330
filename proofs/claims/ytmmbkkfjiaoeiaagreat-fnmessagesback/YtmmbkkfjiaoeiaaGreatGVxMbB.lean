import Derived.Test.YtmmbkkfjiaoeiaaGreatGV11
namespace Go.Proofs.YtmmbkkfjiaoeiaaGreat
open Go Go.RowKit
theorem MsO.kpT {W W':World} {B:Nat} {m:Msg} {v0 v1 v2 v3 v4 v5 v6 v7 v8 v9 v10 v11 v12 v5':Value} {ls:List (List UInt8)} (h:MsO W B m v0 v1 v2 v3 v4 v5 v6 v7 v8 v9 v10 v11 v12) (k:dgK B 9 W W') (n:dgU W' B v5' ls):MsF W' B ⟨m.k,m.v,m.r,m.s,m.ho,ls,m.ti,m.ag,m.ea,m.bi,m.rs,m.ce,m.pf⟩ v0 v1 v2 v3 v4 v5' v6 v7 v8 v9 v10 v11 v12 :=
 ⟨h.i0,h.i1,h.b2.kp k (by decide),h.b3.kp k (by decide),h.s4,n,h.b6.kp k (by decide),h.i7,h.i8,h.b9.kp k (by decide),h.o10,h.c11.rd.kp k (by decide),h.b12.kp k (by decide)⟩
theorem MsO.kpC {W W':World} {B:Nat} {m:Msg} {v0 v1 v2 v3 v4 v5 v6 v7 v8 v9 v10 v11 v12 v11':Value} {its:List (List Int)} (h:MsO W B m v0 v1 v2 v3 v4 v5 v6 v7 v8 v9 v10 v11 v12) (k:dgK B 52 W W') (n:dgD W' B v11' its):MsF W' B ⟨m.k,m.v,m.r,m.s,m.ho,m.pr,m.ti,m.ag,m.ea,m.bi,m.rs,its,m.pf⟩ v0 v1 v2 v3 v4 v5 v6 v7 v8 v9 v10 v11' v12 :=
 ⟨h.i0,h.i1,h.b2.kp k (by decide),h.b3.kp k (by decide),h.s4,h.t5.rd.kp k (by decide),h.b6.kp k (by decide),h.i7,h.i8,h.b9.kp k (by decide),h.o10,n,h.b12.kp k (by decide)⟩
theorem make_row {w w':World} {n:Nat} (hn:n≤10000) (h:w'.ownsRow w.heap.size 5 1 (.slice (some ⟨w.heap.size,0,none⟩) n n) n (madeCells (Value.int .u8 0).cells (n*1)).toList):RowB w' w.heap.size (.slice (some ⟨w.heap.size,0,none⟩) n n) (List.replicate n 0)∧Byt (List.replicate n 0):=by
 obtain ⟨R,l,b⟩:=make_dgB hn h (Nat.le_refl _)
 exact ⟨R,b⟩
theorem nine_u {W:World} {g B:Nat} (h:BlkT W g nineT) (r:Nat) (hr:r < 2) (hB:B≤g):dgU W B (.slice (some ⟨g,r,none⟩) (9 - r) (9 - r)) (nineT.drop r):=by
 have l9:(nineT.drop r).length=9 - r:=by rw [List.length_drop];rfl
 refine ⟨_,9 - r,g,by rw [l9],fun _=>⟨r,rfl,fun i hi=>?_⟩,by omega,by omega,fun l hl=>?_,fun _=>⟨hB,_,_,h⟩⟩
 ·rw [l9] at hi
  rw [h.cell (i:=r+i) (by show r+i < 9;omega)]
  simp [List.getD,List.getElem?_drop]
 ·have := (by decide : ∀ l ∈ nineT, l.length ≤ 100) l (List.mem_of_mem_drop hl)
  exact this
set_option maxRecDepth 100000 in
set_option maxHeartbeats 16000000 in
set_option linter.unusedSimpArgs false in
theorem break_M {w : World} {s g : Nat} {a : Option Addr} {c : Nat} {xs : List Int} {t : Int} {B : Nat} {m : Msg} {v0 v1 v2 v3 v4 v5 v6 v7 v8 v9 v10 v11 v12 : Value} (d : Drm w s g a c xs t) (t1 : t ≤ 900000) (hsB : s < B) (hgB : 0 < xs.length → g < B) (hB : B ≤ w.heap.size) (hv : MsO w B m v0 v1 v2 v3 v4 v5 v6 v7 v8 v9 v10 v11 v12) :
  Calls Tryz.prog 34 #[.pointer (some ⟨s,0,none⟩),.agg #[v0,v1,v2,v3,v4,v5,v6,v7,v8,v9,v10,v11,v12]] w fun e w'=>∃ u:Int,MsFV w' B (brF xs t m) e∧u≤t+100∧Dq w w' s g a c xs B u:=by
 obtain ⟨n0,n1,a2,l2,c2,a3,l3,c3,h4,a5,l5,c5,a6,l6,c6,n7,n8,a9,l9,c9,b10,a11,l11,c11,a12,l12,c12,rfl,rfl,rfl,rfl,rfl,rfl,rfl,rfl,rfl,rfl,rfl,rfl,rfl⟩:=hv.rd.forms
 obtain ⟨dR,hdR,hrowR⟩:=rowM
 obtain ⟨i0,hi,hz0,hz1,hz2⟩:=info_parts Tryz.info5
 have D0:Dq w w s g a c xs B t:=Dq.start d hsB hgB hB
 have b1:Below w.heap.size w (w.alloc (.cells #[.int .i64 n0,.int .i64 n1,.slice a2 l2 c2,.slice a3 l3 c3,.string ⟨⟨h4⟩⟩,.slice a5 l5 c5,.slice a6 l6 c6,.int .i64 n7,.int .i64 n8,.slice a9 l9 c9,.bool b10,.slice a11 l11 c11,.slice a12 l12 c12] 26)):=(Below.refl _ _).alloc (Nat.le_refl _) _
 have z1:(w.alloc (.cells #[.int .i64 n0,.int .i64 n1,.slice a2 l2 c2,.slice a3 l3 c3,.string ⟨⟨h4⟩⟩,.slice a5 l5 c5,.slice a6 l6 c6,.int .i64 n7,.int .i64 n8,.slice a9 l9 c9,.bool b10,.slice a11 l11 c11,.slice a12 l12 c12] 26)).heap.size=w.heap.size+1:=by simp
 have b2:Below w.heap.size w ((w.alloc (.cells #[.int .i64 n0,.int .i64 n1,.slice a2 l2 c2,.slice a3 l3 c3,.string ⟨⟨h4⟩⟩,.slice a5 l5 c5,.slice a6 l6 c6,.int .i64 n7,.int .i64 n8,.slice a9 l9 c9,.bool b10,.slice a11 l11 c11,.slice a12 l12 c12] 26)).alloc (.cells #[.int .i64 0,.int .i64 0,.slice none 0 0,.slice none 0 0,.string ⟨#[]⟩,.slice none 0 0,.slice none 0 0,.int .i64 0,.int .i64 0,.slice none 0 0,.bool false,.slice none 0 0,.slice none 0 0] 26)):=b1.alloc (by omega) _
 have z2:((w.alloc (.cells #[.int .i64 n0,.int .i64 n1,.slice a2 l2 c2,.slice a3 l3 c3,.string ⟨⟨h4⟩⟩,.slice a5 l5 c5,.slice a6 l6 c6,.int .i64 n7,.int .i64 n8,.slice a9 l9 c9,.bool b10,.slice a11 l11 c11,.slice a12 l12 c12] 26)).alloc (.cells #[.int .i64 0,.int .i64 0,.slice none 0 0,.slice none 0 0,.string ⟨#[]⟩,.slice none 0 0,.slice none 0 0,.int .i64 0,.int .i64 0,.slice none 0 0,.bool false,.slice none 0 0,.slice none 0 0] 26)).heap.size=w.heap.size+2:=by simp
 have T:RwC ((w.alloc (.cells #[.int .i64 n0,.int .i64 n1,.slice a2 l2 c2,.slice a3 l3 c3,.string ⟨⟨h4⟩⟩,.slice a5 l5 c5,.slice a6 l6 c6,.int .i64 n7,.int .i64 n8,.slice a9 l9 c9,.bool b10,.slice a11 l11 c11,.slice a12 l12 c12] 26)).alloc (.cells #[.int .i64 0,.int .i64 0,.slice none 0 0,.slice none 0 0,.string ⟨#[]⟩,.slice none 0 0,.slice none 0 0,.int .i64 0,.int .i64 0,.slice none 0 0,.bool false,.slice none 0 0,.slice none 0 0] 26)) w.heap.size [.int .i64 n0,.int .i64 n1,.slice a2 l2 c2,.slice a3 l3 c3,.string ⟨⟨h4⟩⟩,.slice a5 l5 c5,.slice a6 l6 c6,.int .i64 n7,.int .i64 n8,.slice a9 l9 c9,.bool b10,.slice a11 l11 c11,.slice a12 l12 c12] 26:=(RwC.new w _ _).push _
 have Q:RwC ((w.alloc (.cells #[.int .i64 n0,.int .i64 n1,.slice a2 l2 c2,.slice a3 l3 c3,.string ⟨⟨h4⟩⟩,.slice a5 l5 c5,.slice a6 l6 c6,.int .i64 n7,.int .i64 n8,.slice a9 l9 c9,.bool b10,.slice a11 l11 c11,.slice a12 l12 c12] 26)).alloc (.cells #[.int .i64 0,.int .i64 0,.slice none 0 0,.slice none 0 0,.string ⟨#[]⟩,.slice none 0 0,.slice none 0 0,.int .i64 0,.int .i64 0,.slice none 0 0,.bool false,.slice none 0 0,.slice none 0 0] 26)) (w.heap.size+1) [.int .i64 0,.int .i64 0,.slice none 0 0,.slice none 0 0,.string ⟨#[]⟩,.slice none 0 0,.slice none 0 0,.int .i64 0,.int .i64 0,.slice none 0 0,.bool false,.slice none 0 0,.slice none 0 0] 26:=by
  have h:=RwC.new (w.alloc (.cells #[.int .i64 n0,.int .i64 n1,.slice a2 l2 c2,.slice a3 l3 c3,.string ⟨⟨h4⟩⟩,.slice a5 l5 c5,.slice a6 l6 c6,.int .i64 n7,.int .i64 n8,.slice a9 l9 c9,.bool b10,.slice a11 l11 c11,.slice a12 l12 c12] 26)) [.int .i64 0,.int .i64 0,.slice none 0 0,.slice none 0 0,.string ⟨#[]⟩,.slice none 0 0,.slice none 0 0,.int .i64 0,.int .i64 0,.slice none 0 0,.bool false,.slice none 0 0,.slice none 0 0] 26
  rwa [z1] at h
 have M:=hv.kp (dgK.up b2) neM
 have D:=D0.up b2
 have POST:∀ {m':Msg} {v0 v1 v2 v3 v4 v5 v6 v7 v8 v9 v10 v11 v12:Value} {W:World} {u:Int},Hid (MsF W B m' v0 v1 v2 v3 v4 v5 v6 v7 v8 v9 v10 v11 v12)→Hid (Dq w W s g a c xs B u)→u≤t+100→Hid (brF xs t m=m')→Hid (∃ u:Int,MsFV W B (brF xs t m) (.returned (.agg #[v0,v1,v2,v3,v4,v5,v6,v7,v8,v9,v10,v11,v12]))∧u≤t+100∧Dq w W s g a c xs B u):=fun {m' v0 v1 v2 v3 v4 v5 v6 v7 v8 v9 v10 v11 v12 W u} hm hd hu he=>⟨u,⟨v0,v1,v2,v3,v4,v5,v6,v7,v8,v9,v10,v11,v12,rfl,by rw [he.out];exact hm.out⟩,hu,hd.out⟩
 clear b1 b2 d D0 hv
 go_enter Tryz.func34,Tryz.ntmps34
 go_wp2_with fail
 try rw [z1]
 clear z1
 generalize (w.alloc (.cells #[.int .i64 n0,.int .i64 n1,.slice a2 l2 c2,.slice a3 l3 c3,.string ⟨⟨h4⟩⟩,.slice a5 l5 c5,.slice a6 l6 c6,.int .i64 n7,.int .i64 n8,.slice a9 l9 c9,.bool b10,.slice a11 l11 c11,.slice a12 l12 c12] 26)).alloc (.cells #[.int .i64 0,.int .i64 0,.slice none 0 0,.slice none 0 0,.string ⟨#[]⟩,.slice none 0 0,.slice none 0 0,.int .i64 0,.int .i64 0,.slice none 0 0,.bool false,.slice none 0 0,.slice none 0 0] 26)=W0 at *
 refine (next_M D.d (by omega) (by decide) (by decide)).mono ?_
 rintro e W1 ⟨k,rfl,ek,hk,d',b'⟩
 have Ek:=hide ek
 clear ek
 have zW1:=b'.size
 replace T:=T.butM b' (by omega)
 replace M:=M.kp (dgK.but b' D.sB) neM
 replace Q:=Q.butM b' (by omega)
 replace D:=D.but b' d'
 clear b' d'
 have hk':k=0∨k=1∨k=2∨k=3∨k=4∨k=5∨k=6∨k=7∨k=8∨k=9∨k=10∨k=11∨k=12∨k=13∨k=14∨k=15∨k=16∨k=17∨k=18∨k=19:=by omega
 clear hk
 rcases hk' with rfl | rfl | rfl | rfl | rfl | rfl | rfl | rfl | rfl | rfl | rfl | rfl | rfl | rfl | rfl | rfl | rfl | rfl | rfl | rfl
 ·rw [show ((0 : Nat) : Int) = 0 from rfl]
  replace M:=M.rd
  go_wp2_with fail
  refine (next_M D.d (by omega) (by decide) (by decide)).mono ?_
  rintro e W2 ⟨r,rfl,er,hr,d',b'⟩
  have Er:=hide er
  clear er
  have zW2:=b'.size
  replace T:=T.butM b' (by omega)
  replace M:=M.kp (dgK.but b' D.sB) neM
  replace Q:=Q.butM b' (by omega)
  replace D:=D.but b' d'
  clear b' d'
  have tc:W2.cell? ⟨w.heap.size,0,none⟩=some (.int .i64 n0):=T.cell 0
  obtain ⟨tf,OS,T1,Q1,D1,zz⟩:=setQ 0 (.int .i64 ((r:Int))) T Q D (by omega) (by omega)
  simp only [sS,sZ] at T1
  have M1:=M.kp (dgK.onl OS T) neM
  have M2:MsF (W2.setCell ⟨w.heap.size,0,none⟩ (.int .i64 ((r:Int)))) B (⟨(r:Int),m.v,m.r,m.s,m.ho,m.pr,m.ti,m.ag,m.ea,m.bi,m.rs,m.ce,m.pf⟩:Msg) _ _ _ _ _ _ _ _ _ _ _ _ _:=⟨rfl,M1.i1,M1.b2,M1.b3,M1.s4,M1.t5,M1.b6,M1.i7,M1.i8,M1.b9,M1.o10,M1.c11,M1.b12⟩
  clear M M1 T Q D OS
  go_upto_region 42 with fail
  generalize W2.setCell ⟨w.heap.size,0,none⟩ (.int .i64 ((r:Int)))=W3 at *
  revert T1 Q1 D1 M2
  intro T Q D M
  clear tc tf
  have RG:=T.rangeG
  obtain ⟨THR,ONE,RR,MF,DF⟩:=M.fin Q D (by omega)
  clear M D Q T
  have EQ:Hid (brF xs t m=(⟨(r:Int),m.v,m.r,m.s,m.ho,m.pr,m.ti,m.ag,m.ea,m.bi,m.rs,m.ce,m.pf⟩:Msg)):=by
   show _=_
   unfold brF
   simp only [Ek.out,show ((0:Nat):Int)=0 from rfl,Int.reduceEq,reduceIte,Er.out,Int.toNat_natCast]
  go_wp2_with (first | refine wpList_load_mid rfl 26 (.tmp 3) rfl _ 0 rfl _ dR RG hdR hrowR iM ?_ | refine wpList_store_mid rfl 26 (.tmp 4) (.tmp 138) rfl _ 0 _ rfl rfl THR iM ONE ?_)
  refine bodyPost_ret (v := .agg _) (results_cellG Tryz.results34 _ _ _ _ dR rfl RR hdR hrowR iM) rfl ?_
  exact (POST MF DF (by omega) EQ).out
 ·rw [show ((1 : Nat) : Int) = 1 from rfl]
  replace M:=M.rd
  go_wp2_with fail
  refine (next_M D.d (by omega) (by decide) (by decide)).mono ?_
  rintro e W4 ⟨r,rfl,er,hr,d',b'⟩
  have Er:=hide er
  clear er
  have zW4:=b'.size
  replace T:=T.butM b' (by omega)
  replace M:=M.kp (dgK.but b' D.sB) neM
  replace Q:=Q.butM b' (by omega)
  replace D:=D.but b' d'
  clear b' d'
  have tc:W4.cell? ⟨w.heap.size,1,none⟩=some (.int .i64 n1):=T.cell 1
  obtain ⟨tf,OS,T1,Q1,D1,zz⟩:=setQ 1 (.int .i64 (256*(r:Int))) T Q D (by omega) (by omega)
  simp only [sS,sZ] at T1
  have M1:=M.kp (dgK.onl OS T) neM
  have M2:MsF (W4.setCell ⟨w.heap.size,1,none⟩ (.int .i64 (256*(r:Int)))) B (⟨m.k,256*(r:Int),m.r,m.s,m.ho,m.pr,m.ti,m.ag,m.ea,m.bi,m.rs,m.ce,m.pf⟩:Msg) _ _ _ _ _ _ _ _ _ _ _ _ _:=⟨M1.i0,rfl,M1.b2,M1.b3,M1.s4,M1.t5,M1.b6,M1.i7,M1.i8,M1.b9,M1.o10,M1.c11,M1.b12⟩
  clear M M1 T Q D OS
  go_upto_region 42 with fail
  generalize W4.setCell ⟨w.heap.size,1,none⟩ (.int .i64 (256*(r:Int)))=W5 at *
  revert T1 Q1 D1 M2
  intro T Q D M
  clear tc tf
  have RG:=T.rangeG
  obtain ⟨THR,ONE,RR,MF,DF⟩:=M.fin Q D (by omega)
  clear M D Q T
  have EQ:Hid (brF xs t m=(⟨m.k,256*(r:Int),m.r,m.s,m.ho,m.pr,m.ti,m.ag,m.ea,m.bi,m.rs,m.ce,m.pf⟩:Msg)):=by
   show _=_
   unfold brF
   simp only [Ek.out,show ((1:Nat):Int)=1 from rfl,Int.reduceEq,reduceIte,Er.out,Int.toNat_natCast]
  go_wp2_with (first | refine wpList_load_mid rfl 26 (.tmp 3) rfl _ 0 rfl _ dR RG hdR hrowR iM ?_ | refine wpList_store_mid rfl 26 (.tmp 4) (.tmp 138) rfl _ 0 _ rfl rfl THR iM ONE ?_)
  refine bodyPost_ret (v := .agg _) (results_cellG Tryz.results34 _ _ _ _ dR rfl RR hdR hrowR iM) rfl ?_
  exact (POST MF DF (by omega) EQ).out
 ·rw [show ((2 : Nat) : Int) = 2 from rfl]
  replace M:=M.rd
  go_wp2_with fail
  refine (next_M D.d (by omega) (by decide) (by decide)).mono ?_
  rintro e W6 ⟨r,rfl,er,hr,d',b'⟩
  have Er:=hide er
  clear er
  have zW6:=b'.size
  replace T:=T.butM b' (by omega)
  replace M:=M.kp (dgK.but b' D.sB) neM
  replace Q:=Q.butM b' (by omega)
  replace D:=D.but b' d'
  clear b' d'
  obtain ⟨j,hj⟩:∃ j:Nat,j=31+r:=⟨_,rfl⟩
  have qj:j≤70:=by omega
  have wj:IntKind.i64.wrap (31+(r:Int))=(j:Int):=by rw [IntKind.wrap_i64];omega
  have wj':31+(r:Int)=(j:Int):=by omega
  have HJ:=hide hj
  clear hj
  go_wp2_with fail
  try rw [wj']
  clear wj wj' hr
  refine (drawBytes_M D.d j (by omega)).mono ?_
  rintro e W7 ⟨v',rfl,yb,R',d',b'⟩
  obtain ⟨Xx,hXx⟩:∃ X,X=dbF xs (t+1+1) j:=⟨_,rfl⟩
  have yl:Xx.length=j:=by rw [hXx,dbF_len]
  rw [← hXx] at R' yb
  have fx:dgB W7 B v' Xx:=dgB.row R' (by omega) yb (by omega)
  obtain ⟨ax,lx,cx,rfl⟩:=fx.form
  have EXx:=hide hXx
  clear R' yl yb hXx
  have zW7:=b'.size
  replace T:=T.butM b' (by omega)
  replace M:=M.kp (dgK.but b' D.sB) neM
  replace Q:=Q.butM b' (by omega)
  replace D:=D.but b' d'
  clear b' d'
  have tc:W7.cell? ⟨w.heap.size,2,none⟩=some (.slice a2 l2 c2):=T.cell 2
  obtain ⟨tf,OS,T1,Q1,D1,zz⟩:=setQ 2 (.slice ax lx cx) T Q D (by omega) (by omega)
  simp only [sS,sZ] at T1
  have M1:=M.kp (dgK.onl OS T) neM
  have nf:=fx.kp (dgK.onl OS T) (by decide)
  have M2:MsF (W7.setCell ⟨w.heap.size,2,none⟩ (.slice ax lx cx)) B (⟨m.k,m.v,Xx,m.s,m.ho,m.pr,m.ti,m.ag,m.ea,m.bi,m.rs,m.ce,m.pf⟩:Msg) _ _ _ _ _ _ _ _ _ _ _ _ _:=⟨M1.i0,M1.i1,nf,M1.b3,M1.s4,M1.t5,M1.b6,M1.i7,M1.i8,M1.b9,M1.o10,M1.c11,M1.b12⟩
  clear M M1 T Q D OS nf
  go_upto_region 42 with fail
  generalize W7.setCell ⟨w.heap.size,2,none⟩ (.slice ax lx cx)=W8 at *
  revert T1 Q1 D1 M2
  intro T Q D M
  clear tc tf
  have RG:=T.rangeG
  obtain ⟨THR,ONE,RR,MF,DF⟩:=M.fin Q D (by omega)
  clear M D Q T
  have EQ:Hid (brF xs t m=(⟨m.k,m.v,Xx,m.s,m.ho,m.pr,m.ti,m.ag,m.ea,m.bi,m.rs,m.ce,m.pf⟩:Msg)):=by
   show _=_
   unfold brF
   simp only [Ek.out,show ((2:Nat):Int)=2 from rfl,Int.reduceEq,reduceIte,Er.out,← HJ.out,← EXx.out,Int.toNat_natCast]
  go_wp2_with (first | refine wpList_load_mid rfl 26 (.tmp 3) rfl _ 0 rfl _ dR RG hdR hrowR iM ?_ | refine wpList_store_mid rfl 26 (.tmp 4) (.tmp 138) rfl _ 0 _ rfl rfl THR iM ONE ?_)
  refine bodyPost_ret (v := .agg _) (results_cellG Tryz.results34 _ _ _ _ dR rfl RR hdR hrowR iM) rfl ?_
  exact (POST MF DF (by omega) EQ).out
 ·rw [show ((3 : Nat) : Int) = 3 from rfl]
  replace M:=M.rd
  go_wp2_with fail
  refine (next_M D.d (by omega) (by decide) (by decide)).mono ?_
  rintro e W9 ⟨r,rfl,er,hr,d',b'⟩
  have Er:=hide er
  clear er
  have zW9:=b'.size
  replace T:=T.butM b' (by omega)
  replace M:=M.kp (dgK.but b' D.sB) neM
  replace Q:=Q.butM b' (by omega)
  replace D:=D.but b' d'
  clear b' d'
  obtain ⟨j,hj⟩:∃ j:Nat,j=33*r:=⟨_,rfl⟩
  have qj:j≤70:=by omega
  have wj:IntKind.i64.wrap (33*(r:Int))=(j:Int):=by rw [IntKind.wrap_i64];omega
  have wj':33*(r:Int)=(j:Int):=by omega
  have HJ:=hide hj
  clear hj
  go_wp2_with fail
  try rw [wj']
  clear wj wj' hr
  refine (drawBytes_M D.d j (by omega)).mono ?_
  rintro e W10 ⟨v',rfl,yb,R',d',b'⟩
  obtain ⟨Xx,hXx⟩:∃ X,X=dbF xs (t+1+1) j:=⟨_,rfl⟩
  have yl:Xx.length=j:=by rw [hXx,dbF_len]
  rw [← hXx] at R' yb
  have fx:dgB W10 B v' Xx:=dgB.row R' (by omega) yb (by omega)
  obtain ⟨ax,lx,cx,rfl⟩:=fx.form
  have EXx:=hide hXx
  clear R' yl yb hXx
  have zW10:=b'.size
  replace T:=T.butM b' (by omega)
  replace M:=M.kp (dgK.but b' D.sB) neM
  replace Q:=Q.butM b' (by omega)
  replace D:=D.but b' d'
  clear b' d'
  have tc:W10.cell? ⟨w.heap.size,3,none⟩=some (.slice a3 l3 c3):=T.cell 3
  obtain ⟨tf,OS,T1,Q1,D1,zz⟩:=setQ 3 (.slice ax lx cx) T Q D (by omega) (by omega)
  simp only [sS,sZ] at T1
  have M1:=M.kp (dgK.onl OS T) neM
  have nf:=fx.kp (dgK.onl OS T) (by decide)
  have M2:MsF (W10.setCell ⟨w.heap.size,3,none⟩ (.slice ax lx cx)) B (⟨m.k,m.v,m.r,Xx,m.ho,m.pr,m.ti,m.ag,m.ea,m.bi,m.rs,m.ce,m.pf⟩:Msg) _ _ _ _ _ _ _ _ _ _ _ _ _:=⟨M1.i0,M1.i1,M1.b2,nf,M1.s4,M1.t5,M1.b6,M1.i7,M1.i8,M1.b9,M1.o10,M1.c11,M1.b12⟩
  clear M M1 T Q D OS nf
  go_upto_region 42 with fail
  generalize W10.setCell ⟨w.heap.size,3,none⟩ (.slice ax lx cx)=W11 at *
  revert T1 Q1 D1 M2
  intro T Q D M
  clear tc tf
  have RG:=T.rangeG
  obtain ⟨THR,ONE,RR,MF,DF⟩:=M.fin Q D (by omega)
  clear M D Q T
  have EQ:Hid (brF xs t m=(⟨m.k,m.v,m.r,Xx,m.ho,m.pr,m.ti,m.ag,m.ea,m.bi,m.rs,m.ce,m.pf⟩:Msg)):=by
   show _=_
   unfold brF
   simp only [Ek.out,show ((3:Nat):Int)=3 from rfl,Int.reduceEq,reduceIte,Er.out,← HJ.out,← EXx.out,Int.toNat_natCast]
  go_wp2_with (first | refine wpList_load_mid rfl 26 (.tmp 3) rfl _ 0 rfl _ dR RG hdR hrowR iM ?_ | refine wpList_store_mid rfl 26 (.tmp 4) (.tmp 138) rfl _ 0 _ rfl rfl THR iM ONE ?_)
  refine bodyPost_ret (v := .agg _) (results_cellG Tryz.results34 _ _ _ _ dR rfl RR hdR hrowR iM) rfl ?_
  exact (POST MF DF (by omega) EQ).out
 ·rw [show ((4 : Nat) : Int) = 4 from rfl]
  replace M:=M.rd
  go_wp2_with fail
  refine (drawAny_M D.d (by omega)).mono ?_
  rintro e W12 ⟨hx,ux,rfl,eax,lhx,hux,d',b'⟩
  have EAX:=hide eax
  clear eax
  have zW12:=b'.size
  replace T:=T.butM b' (by omega)
  replace M:=M.kp (dgK.but b' D.sB) neM
  replace Q:=Q.butM b' (by omega)
  replace D:=D.but b' d'
  clear b' d'
  have tc:W12.cell? ⟨w.heap.size,4,none⟩=some (.string ⟨⟨h4⟩⟩):=T.cell 4
  obtain ⟨tf,OS,T1,Q1,D1,zz⟩:=setQ 4 (.string ⟨⟨hx⟩⟩) T Q D (by omega) (by omega)
  simp only [sS,sZ] at T1
  have M1:=M.kp (dgK.onl OS T) neM
  have M2:MsF (W12.setCell ⟨w.heap.size,4,none⟩ (.string ⟨⟨hx⟩⟩)) B (⟨m.k,m.v,m.r,m.s,hx,m.pr,m.ti,m.ag,m.ea,m.bi,m.rs,m.ce,m.pf⟩:Msg) _ _ _ _ _ _ _ _ _ _ _ _ _:=⟨M1.i0,M1.i1,M1.b2,M1.b3,⟨rfl,by show hx.length≤300;omega⟩,M1.t5,M1.b6,M1.i7,M1.i8,M1.b9,M1.o10,M1.c11,M1.b12⟩
  clear M M1 T Q D OS
  go_upto_region 42 with fail
  generalize W12.setCell ⟨w.heap.size,4,none⟩ (.string ⟨⟨hx⟩⟩)=W13 at *
  revert T1 Q1 D1 M2
  intro T Q D M
  clear tc tf
  have RG:=T.rangeG
  obtain ⟨THR,ONE,RR,MF,DF⟩:=M.fin Q D (by omega)
  clear M D Q T
  have EQ:Hid (brF xs t m=(⟨m.k,m.v,m.r,m.s,hx,m.pr,m.ti,m.ag,m.ea,m.bi,m.rs,m.ce,m.pf⟩:Msg)):=by
   show _=_
   unfold brF
   simp only [Ek.out,show ((4:Nat):Int)=4 from rfl,Int.reduceEq,reduceIte,EAX.out,Int.toNat_natCast]
  go_wp2_with (first | refine wpList_load_mid rfl 26 (.tmp 3) rfl _ 0 rfl _ dR RG hdR hrowR iM ?_ | refine wpList_store_mid rfl 26 (.tmp 4) (.tmp 138) rfl _ 0 _ rfl rfl THR iM ONE ?_)
  refine bodyPost_ret (v := .agg _) (results_cellG Tryz.results34 _ _ _ _ dR rfl RR hdR hrowR iM) rfl ?_
  exact (POST MF DF (by omega) EQ).out
 ·rw [show ((5 : Nat) : Int) = 5 from rfl]
  obtain ⟨RL,ll,lz⟩:=M.t5
  obtain ⟨v',W14,h1,R',nB,K⟩:=append_txs W1 23 B _ m.pr [[104,50],[104,50]] RL (by omega) (by decide) (by omega)
  have h1':(Builtin.append_ #[23,23] 23 #[.slice a5 l5 c5,.slice (some ⟨W1.heap.size,0,none⟩) 2 2]).run Tryz.prog (W1.alloc (.cells #[Value.string (ByteArray.mk #[104,50]),Value.string (ByteArray.mk #[104,50])] 9)) = .ok v' W14:=h1
  have fu:=R'.u (by simp;omega) (fun l hl=>by
   rcases List.mem_append.1 hl with h | h
   ·exact lz l h
   ·exact (by decide:∀ l ∈ ([[104,50],[104,50]]:List (List UInt8)),l.length≤100) l h)
  obtain ⟨av,cv,gv,rfl,_⟩:=R'.form
  obtain ⟨lv,hlv⟩:∃ lv,lv=(m.pr ++ [[104,50],[104,50]]).length:=⟨_,rfl⟩
  rw [← hlv] at h1' fu
  have zN:=nB.size
  have t5:W1.cell? ⟨w.heap.size,5,none⟩=some (.slice a5 l5 c5):=T.cell 5
  have t5':(W1.alloc (.cells #[Value.string (ByteArray.mk #[104,50]),Value.string (ByteArray.mk #[104,50])] 9)).cell? ⟨w.heap.size,5,none⟩=some (.slice a5 l5 c5):=(T.push _).cell 5
  have MT:=M.kpT K fu
  replace T:=T.kpM K (by omega) (by decide)
  replace Q:=Q.kpM K (by omega) (by decide)
  replace D:=D.app nB K (.inl rfl)
  clear M RL h1 R' nB hlv fu
  have M:=MT
  clear MT K
  have tc:W14.cell? ⟨w.heap.size,5,none⟩=some (.slice a5 l5 c5):=T.cell 5
  have tf:=T.free 5
  have OS:=Only.setCell W14 w.heap.size 5 (.slice av lv cv)
  have T1:RwC (W14.setCell ⟨w.heap.size,5,none⟩ (.slice av lv cv)) w.heap.size [.int .i64 n0,.int .i64 n1,.slice a2 l2 c2,.slice a3 l3 c3,.string ⟨⟨h4⟩⟩,.slice av lv cv,.slice a6 l6 c6,.int .i64 n7,.int .i64 n8,.slice a9 l9 c9,.bool b10,.slice a11 l11 c11,.slice a12 l12 c12] 26:=T.set 5 _
  have Q1:=Q.onl OS (by omega)
  have D1:=D.onl OS (by omega)
  have M2:=M.kp (dgK.onl OS T) neM
  have zz:=OS.size
  clear M T Q D OS
  go_upto_region 42 with (at_builtin;refine Lib.wpList_append_run _ rfl _ _ 23 23 rfl _ _ rfl rfl _ _ h1' ?_)
  clear h1' t5 t5'
  generalize W14.setCell ⟨w.heap.size,5,none⟩ (.slice av lv cv)=W15 at *
  revert T1 Q1 D1 M2
  intro T Q D M
  clear tc tf
  have RG:=T.rangeG
  obtain ⟨THR,ONE,RR,MF,DF⟩:=M.fin Q D (by omega)
  clear M D Q T
  have EQ:Hid (brF xs t m=(⟨m.k,m.v,m.r,m.s,m.ho,m.pr ++ [[104,50],[104,50]],m.ti,m.ag,m.ea,m.bi,m.rs,m.ce,m.pf⟩:Msg)):=by
   show _=_
   unfold brF
   simp only [Ek.out,show ((5:Nat):Int)=5 from rfl,Int.reduceEq,reduceIte]
  go_wp2_with (first | refine wpList_load_mid rfl 26 (.tmp 3) rfl _ 0 rfl _ dR RG hdR hrowR iM ?_ | refine wpList_store_mid rfl 26 (.tmp 4) (.tmp 138) rfl _ 0 _ rfl rfl THR iM ONE ?_)
  refine bodyPost_ret (v := .agg _) (results_cellG Tryz.results34 _ _ _ _ dR rfl RR hdR hrowR iM) rfl ?_
  exact (POST MF DF (by omega) EQ).out
 ·rw [show ((6 : Nat) : Int) = 6 from rfl]
  obtain ⟨RL,ll,lz⟩:=M.t5
  obtain ⟨v',W16,h1,R',nB,K⟩:=append_txs W1 23 B _ m.pr [[]] RL (by omega) (by decide) (by omega)
  have h1':(Builtin.append_ #[23,23] 23 #[.slice a5 l5 c5,.slice (some ⟨W1.heap.size,0,none⟩) 1 1]).run Tryz.prog (W1.alloc (.cells #[Value.string (ByteArray.mk #[])] 9)) = .ok v' W16:=h1
  have fu:=R'.u (by simp;omega) (fun l hl=>by
   rcases List.mem_append.1 hl with h | h
   ·exact lz l h
   ·exact (by decide:∀ l ∈ ([[]]:List (List UInt8)),l.length≤100) l h)
  obtain ⟨av,cv,gv,rfl,_⟩:=R'.form
  obtain ⟨lv,hlv⟩:∃ lv,lv=(m.pr ++ [[]]).length:=⟨_,rfl⟩
  rw [← hlv] at h1' fu
  have zN:=nB.size
  have t5:W1.cell? ⟨w.heap.size,5,none⟩=some (.slice a5 l5 c5):=T.cell 5
  have t5':(W1.alloc (.cells #[Value.string (ByteArray.mk #[])] 9)).cell? ⟨w.heap.size,5,none⟩=some (.slice a5 l5 c5):=(T.push _).cell 5
  have MT:=M.kpT K fu
  replace T:=T.kpM K (by omega) (by decide)
  replace Q:=Q.kpM K (by omega) (by decide)
  replace D:=D.app nB K (.inl rfl)
  clear M RL h1 R' nB hlv fu
  have M:=MT
  clear MT K
  have tc:W16.cell? ⟨w.heap.size,5,none⟩=some (.slice a5 l5 c5):=T.cell 5
  have tf:=T.free 5
  have OS:=Only.setCell W16 w.heap.size 5 (.slice av lv cv)
  have T1:RwC (W16.setCell ⟨w.heap.size,5,none⟩ (.slice av lv cv)) w.heap.size [.int .i64 n0,.int .i64 n1,.slice a2 l2 c2,.slice a3 l3 c3,.string ⟨⟨h4⟩⟩,.slice av lv cv,.slice a6 l6 c6,.int .i64 n7,.int .i64 n8,.slice a9 l9 c9,.bool b10,.slice a11 l11 c11,.slice a12 l12 c12] 26:=T.set 5 _
  have Q1:=Q.onl OS (by omega)
  have D1:=D.onl OS (by omega)
  have M2:=M.kp (dgK.onl OS T) neM
  have zz:=OS.size
  clear M T Q D OS
  go_upto_region 42 with (at_builtin;refine Lib.wpList_append_run _ rfl _ _ 23 23 rfl _ _ rfl rfl _ _ h1' ?_)
  clear h1' t5 t5'
  generalize W16.setCell ⟨w.heap.size,5,none⟩ (.slice av lv cv)=W17 at *
  revert T1 Q1 D1 M2
  intro T Q D M
  clear tc tf
  have RG:=T.rangeG
  obtain ⟨THR,ONE,RR,MF,DF⟩:=M.fin Q D (by omega)
  clear M D Q T
  have EQ:Hid (brF xs t m=(⟨m.k,m.v,m.r,m.s,m.ho,m.pr ++ [[]],m.ti,m.ag,m.ea,m.bi,m.rs,m.ce,m.pf⟩:Msg)):=by
   show _=_
   unfold brF
   simp only [Ek.out,show ((6:Nat):Int)=6 from rfl,Int.reduceEq,reduceIte]
  go_wp2_with (first | refine wpList_load_mid rfl 26 (.tmp 3) rfl _ 0 rfl _ dR RG hdR hrowR iM ?_ | refine wpList_store_mid rfl 26 (.tmp 4) (.tmp 138) rfl _ 0 _ rfl rfl THR iM ONE ?_)
  refine bodyPost_ret (v := .agg _) (results_cellG Tryz.results34 _ _ _ _ dR rfl RR hdR hrowR iM) rfl ?_
  exact (POST MF DF (by omega) EQ).out
 ·rw [show ((7 : Nat) : Int) = 7 from rfl]
  obtain ⟨RL,ll,lz⟩:=M.t5
  obtain ⟨v',W18,h1,R',nB,K⟩:=append_txs W1 23 B _ m.pr [[97,32,112,114,111,116,111,99,111,108,32,119,104,111,115,101,32,110,97,109,101,32,104,97,115,32,51,51,32,98,121,116,101]] RL (by omega) (by decide) (by omega)
  have h1':(Builtin.append_ #[23,23] 23 #[.slice a5 l5 c5,.slice (some ⟨W1.heap.size,0,none⟩) 1 1]).run Tryz.prog (W1.alloc (.cells #[Value.string (ByteArray.mk #[97,32,112,114,111,116,111,99,111,108,32,119,104,111,115,101,32,110,97,109,101,32,104,97,115,32,51,51,32,98,121,116,101])] 9)) = .ok v' W18:=h1
  have fu:=R'.u (by simp;omega) (fun l hl=>by
   rcases List.mem_append.1 hl with h | h
   ·exact lz l h
   ·exact (by decide:∀ l ∈ ([[97,32,112,114,111,116,111,99,111,108,32,119,104,111,115,101,32,110,97,109,101,32,104,97,115,32,51,51,32,98,121,116,101]]:List (List UInt8)),l.length≤100) l h)
  obtain ⟨av,cv,gv,rfl,_⟩:=R'.form
  obtain ⟨lv,hlv⟩:∃ lv,lv=(m.pr ++ [[97,32,112,114,111,116,111,99,111,108,32,119,104,111,115,101,32,110,97,109,101,32,104,97,115,32,51,51,32,98,121,116,101]]).length:=⟨_,rfl⟩
  rw [← hlv] at h1' fu
  have zN:=nB.size
  have t5:W1.cell? ⟨w.heap.size,5,none⟩=some (.slice a5 l5 c5):=T.cell 5
  have t5':(W1.alloc (.cells #[Value.string (ByteArray.mk #[97,32,112,114,111,116,111,99,111,108,32,119,104,111,115,101,32,110,97,109,101,32,104,97,115,32,51,51,32,98,121,116,101])] 9)).cell? ⟨w.heap.size,5,none⟩=some (.slice a5 l5 c5):=(T.push _).cell 5
  have MT:=M.kpT K fu
  replace T:=T.kpM K (by omega) (by decide)
  replace Q:=Q.kpM K (by omega) (by decide)
  replace D:=D.app nB K (.inl rfl)
  clear M RL h1 R' nB hlv fu
  have M:=MT
  clear MT K
  have tc:W18.cell? ⟨w.heap.size,5,none⟩=some (.slice a5 l5 c5):=T.cell 5
  have tf:=T.free 5
  have OS:=Only.setCell W18 w.heap.size 5 (.slice av lv cv)
  have T1:RwC (W18.setCell ⟨w.heap.size,5,none⟩ (.slice av lv cv)) w.heap.size [.int .i64 n0,.int .i64 n1,.slice a2 l2 c2,.slice a3 l3 c3,.string ⟨⟨h4⟩⟩,.slice av lv cv,.slice a6 l6 c6,.int .i64 n7,.int .i64 n8,.slice a9 l9 c9,.bool b10,.slice a11 l11 c11,.slice a12 l12 c12] 26:=T.set 5 _
  have Q1:=Q.onl OS (by omega)
  have D1:=D.onl OS (by omega)
  have M2:=M.kp (dgK.onl OS T) neM
  have zz:=OS.size
  clear M T Q D OS
  go_upto_region 42 with (at_builtin;refine Lib.wpList_append_run _ rfl _ _ 23 23 rfl _ _ rfl rfl _ _ h1' ?_)
  clear h1' t5 t5'
  generalize W18.setCell ⟨w.heap.size,5,none⟩ (.slice av lv cv)=W19 at *
  revert T1 Q1 D1 M2
  intro T Q D M
  clear tc tf
  have RG:=T.rangeG
  obtain ⟨THR,ONE,RR,MF,DF⟩:=M.fin Q D (by omega)
  clear M D Q T
  have EQ:Hid (brF xs t m=(⟨m.k,m.v,m.r,m.s,m.ho,m.pr ++ [[97,32,112,114,111,116,111,99,111,108,32,119,104,111,115,101,32,110,97,109,101,32,104,97,115,32,51,51,32,98,121,116,101]],m.ti,m.ag,m.ea,m.bi,m.rs,m.ce,m.pf⟩:Msg)):=by
   show _=_
   unfold brF
   simp only [Ek.out,show ((7:Nat):Int)=7 from rfl,Int.reduceEq,reduceIte]
  go_wp2_with (first | refine wpList_load_mid rfl 26 (.tmp 3) rfl _ 0 rfl _ dR RG hdR hrowR iM ?_ | refine wpList_store_mid rfl 26 (.tmp 4) (.tmp 138) rfl _ 0 _ rfl rfl THR iM ONE ?_)
  refine bodyPost_ret (v := .agg _) (results_cellG Tryz.results34 _ _ _ _ dR rfl RR hdR hrowR iM) rfl ?_
  exact (by first | exact (POST MF DF (by omega) EQ).out | (obtain ⟨u',h1,h2,h3⟩:=(POST MF DF (by omega) EQ).out;exact ⟨h1,u',h2,h3⟩))
 ·rw [show ((8 : Nat) : Int) = 8 from rfl]
  replace M:=M.rd
  go_wp2_with fail
  refine (next_M D.d (by omega) (by decide) (by decide)).mono ?_
  rintro e W20 ⟨r,rfl,er,hr,d',b'⟩
  have Er:=hide er
  clear er
  have zW20:=b'.size
  replace T:=T.butM b' (by omega)
  replace M:=M.kp (dgK.but b' D.sB) neM
  replace Q:=Q.butM b' (by omega)
  replace D:=D.but b' d'
  clear b' d'
  obtain ⟨j,hj⟩:∃ j:Nat,j=400+r:=⟨_,rfl⟩
  have qj:j≤500:=by omega
  have wj:IntKind.i64.wrap (400+(r:Int))=(j:Int):=by rw [IntKind.wrap_i64];omega
  have wj':400+(r:Int)=(j:Int):=by omega
  have HJ:=hide hj
  clear hj
  go_upto_region 42 with (at_make;refine wpList_make_full _ rfl _ _ 22 rfl W20.heap.size 5 i0 (.int .u8 0) 1 Tryz.underlying22 hi hz0 hz1 .i64 .i64 _ _ j rfl rfl rfl rfl (by rw [hz2];omega) (by unfold maxLen;omega) (Nat.le_refl _) ?_;intro W21 hown hgrow;have fx:dgB W21 B _ (List.replicate j 0):=make_dgB (by omega) hown (by omega);have n':Below W20.heap.size W20 W21:=(Below.refl _ _).grown hgrow (Nat.le_refl _) (by simp);have zW21:=n'.size;replace Q:=Q.up n';replace T:=T.up n';replace D:=D.up n';replace M:=M.kp (dgK.up n') neM;clear hown hgrow n';have tc:W21.cell? ⟨w.heap.size,6,none⟩=some (.slice a6 l6 c6):=T.cell 6;obtain ⟨tf,OS,T1,Q1,D1,zz⟩:=setQ 6 (.slice (some ⟨W20.heap.size,0,none⟩) j j) T Q D (by omega) (by omega);simp only [sS,sZ] at T1;have M1:=M.kp (dgK.onl OS T) neM;have nf:=fx.kp (dgK.onl OS T) (by decide);have M2:MsF (W21.setCell ⟨w.heap.size,6,none⟩ (.slice (some ⟨W20.heap.size,0,none⟩) j j)) B (⟨m.k,m.v,m.r,m.s,m.ho,m.pr,List.replicate j 0,m.ag,m.ea,m.bi,m.rs,m.ce,m.pf⟩:Msg) _ _ _ _ _ _ _ _ _ _ _ _ _:=⟨M1.i0,M1.i1,M1.b2,M1.b3,M1.s4,M1.t5,nf,M1.i7,M1.i8,M1.b9,M1.o10,M1.c11,M1.b12⟩;clear M M1 T Q D OS nf)
  generalize W21.setCell ⟨w.heap.size,6,none⟩ (.slice (some ⟨W20.heap.size,0,none⟩) j j)=W22 at *
  revert T1 Q1 D1 M2
  intro T Q D M
  clear tc tf
  clear wj wj' hr
  have RG:=T.rangeG
  obtain ⟨THR,ONE,RR,MF,DF⟩:=M.fin Q D (by omega)
  clear M D Q T
  have EQ:Hid (brF xs t m=(⟨m.k,m.v,m.r,m.s,m.ho,m.pr,List.replicate j 0,m.ag,m.ea,m.bi,m.rs,m.ce,m.pf⟩:Msg)):=by
   show _=_
   unfold brF
   simp only [Ek.out,show ((8:Nat):Int)=8 from rfl,Int.reduceEq,reduceIte,Er.out,← HJ.out,Int.toNat_natCast]
  go_wp2_with (first | refine wpList_load_mid rfl 26 (.tmp 3) rfl _ 0 rfl _ dR RG hdR hrowR iM ?_ | refine wpList_store_mid rfl 26 (.tmp 4) (.tmp 138) rfl _ 0 _ rfl rfl THR iM ONE ?_)
  refine bodyPost_ret (v := .agg _) (results_cellG Tryz.results34 _ _ _ _ dR rfl RR hdR hrowR iM) rfl ?_
  exact (POST MF DF (by omega) EQ).out
 ·rw [show ((9 : Nat) : Int) = 9 from rfl]
  replace M:=M.rd
  have tc:W1.cell? ⟨w.heap.size,6,none⟩=some (.slice a6 l6 c6):=T.cell 6
  obtain ⟨tf,OS,T1,Q1,D1,zz⟩:=setQ 6 (.slice none 0 0) T Q D (by omega) (by omega)
  simp only [sS,sZ] at T1
  have M1:=M.kp (dgK.onl OS T) neM
  have M2:MsF (W1.setCell ⟨w.heap.size,6,none⟩ (.slice none 0 0)) B (⟨m.k,m.v,m.r,m.s,m.ho,m.pr,[],m.ag,m.ea,m.bi,m.rs,m.ce,m.pf⟩:Msg) _ _ _ _ _ _ _ _ _ _ _ _ _:=⟨M1.i0,M1.i1,M1.b2,M1.b3,M1.s4,M1.t5,dgB.nil _ _,M1.i7,M1.i8,M1.b9,M1.o10,M1.c11,M1.b12⟩
  clear M M1 T Q D OS
  go_upto_region 42 with fail
  generalize W1.setCell ⟨w.heap.size,6,none⟩ (.slice none 0 0)=W23 at *
  revert T1 Q1 D1 M2
  intro T Q D M
  clear tc tf
  have RG:=T.rangeG
  obtain ⟨THR,ONE,RR,MF,DF⟩:=M.fin Q D (by omega)
  clear M D Q T
  have EQ:Hid (brF xs t m=(⟨m.k,m.v,m.r,m.s,m.ho,m.pr,[],m.ag,m.ea,m.bi,m.rs,m.ce,m.pf⟩:Msg)):=by
   show _=_
   unfold brF
   simp only [Ek.out,show ((9:Nat):Int)=9 from rfl,Int.reduceEq,reduceIte]
  go_wp2_with (first | refine wpList_load_mid rfl 26 (.tmp 3) rfl _ 0 rfl _ dR RG hdR hrowR iM ?_ | refine wpList_store_mid rfl 26 (.tmp 4) (.tmp 138) rfl _ 0 _ rfl rfl THR iM ONE ?_)
  refine bodyPost_ret (v := .agg _) (results_cellG Tryz.results34 _ _ _ _ dR rfl RR hdR hrowR iM) rfl ?_
  exact (POST MF DF (by omega) EQ).out
 ·rw [show ((10 : Nat) : Int) = 10 from rfl]
  replace M:=M.rd
  go_wp2_with fail
  refine (next_M D.d (by omega) (by decide) (by decide)).mono ?_
  rintro e W24 ⟨r,rfl,er,hr,d',b'⟩
  have Er:=hide er
  clear er
  have zW24:=b'.size
  replace T:=T.butM b' (by omega)
  replace M:=M.kp (dgK.but b' D.sB) neM
  replace Q:=Q.butM b' (by omega)
  replace D:=D.but b' d'
  clear b' d'
  have tc:W24.cell? ⟨w.heap.size,7,none⟩=some (.int .i64 n7):=T.cell 7
  obtain ⟨tf,OS,T1,Q1,D1,zz⟩:=setQ 7 (.int .i64 (4294967295+(r:Int))) T Q D (by omega) (by omega)
  simp only [sS,sZ] at T1
  have M1:=M.kp (dgK.onl OS T) neM
  have M2:MsF (W24.setCell ⟨w.heap.size,7,none⟩ (.int .i64 (4294967295+(r:Int)))) B (⟨m.k,m.v,m.r,m.s,m.ho,m.pr,m.ti,4294967295+(r:Int),m.ea,m.bi,m.rs,m.ce,m.pf⟩:Msg) _ _ _ _ _ _ _ _ _ _ _ _ _:=⟨M1.i0,M1.i1,M1.b2,M1.b3,M1.s4,M1.t5,M1.b6,rfl,M1.i8,M1.b9,M1.o10,M1.c11,M1.b12⟩
  clear M M1 T Q D OS
  go_upto_region 42 with fail
  generalize W24.setCell ⟨w.heap.size,7,none⟩ (.int .i64 (4294967295+(r:Int)))=W25 at *
  revert T1 Q1 D1 M2
  intro T Q D M
  clear tc tf
  have RG:=T.rangeG
  obtain ⟨THR,ONE,RR,MF,DF⟩:=M.fin Q D (by omega)
  clear M D Q T
  have EQ:Hid (brF xs t m=(⟨m.k,m.v,m.r,m.s,m.ho,m.pr,m.ti,4294967295+(r:Int),m.ea,m.bi,m.rs,m.ce,m.pf⟩:Msg)):=by
   show _=_
   unfold brF
   simp only [Ek.out,show ((10:Nat):Int)=10 from rfl,Int.reduceEq,reduceIte,Er.out,Int.toNat_natCast]
  go_wp2_with (first | refine wpList_load_mid rfl 26 (.tmp 3) rfl _ 0 rfl _ dR RG hdR hrowR iM ?_ | refine wpList_store_mid rfl 26 (.tmp 4) (.tmp 138) rfl _ 0 _ rfl rfl THR iM ONE ?_)
  refine bodyPost_ret (v := .agg _) (results_cellG Tryz.results34 _ _ _ _ dR rfl RR hdR hrowR iM) rfl ?_
  exact (POST MF DF (by omega) EQ).out
 ·rw [show ((11 : Nat) : Int) = 11 from rfl]
  replace M:=M.rd
  have tc:W1.cell? ⟨w.heap.size,7,none⟩=some (.int .i64 n7):=T.cell 7
  obtain ⟨tf,OS,T1,Q1,D1,zz⟩:=setQ 7 (.int .i64 (-1)) T Q D (by omega) (by omega)
  simp only [sS,sZ] at T1
  have M1:=M.kp (dgK.onl OS T) neM
  have M2:MsF (W1.setCell ⟨w.heap.size,7,none⟩ (.int .i64 (-1))) B (⟨m.k,m.v,m.r,m.s,m.ho,m.pr,m.ti,-1,m.ea,m.bi,m.rs,m.ce,m.pf⟩:Msg) _ _ _ _ _ _ _ _ _ _ _ _ _:=⟨M1.i0,M1.i1,M1.b2,M1.b3,M1.s4,M1.t5,M1.b6,rfl,M1.i8,M1.b9,M1.o10,M1.c11,M1.b12⟩
  clear M M1 T Q D OS
  go_upto_region 42 with fail
  generalize W1.setCell ⟨w.heap.size,7,none⟩ (.int .i64 (-1))=W26 at *
  revert T1 Q1 D1 M2
  intro T Q D M
  clear tc tf
  have RG:=T.rangeG
  obtain ⟨THR,ONE,RR,MF,DF⟩:=M.fin Q D (by omega)
  clear M D Q T
  have EQ:Hid (brF xs t m=(⟨m.k,m.v,m.r,m.s,m.ho,m.pr,m.ti,-1,m.ea,m.bi,m.rs,m.ce,m.pf⟩:Msg)):=by
   show _=_
   unfold brF
   simp only [Ek.out,show ((11:Nat):Int)=11 from rfl,Int.reduceEq,reduceIte]
  go_wp2_with (first | refine wpList_load_mid rfl 26 (.tmp 3) rfl _ 0 rfl _ dR RG hdR hrowR iM ?_ | refine wpList_store_mid rfl 26 (.tmp 4) (.tmp 138) rfl _ 0 _ rfl rfl THR iM ONE ?_)
  refine bodyPost_ret (v := .agg _) (results_cellG Tryz.results34 _ _ _ _ dR rfl RR hdR hrowR iM) rfl ?_
  exact (POST MF DF (by omega) EQ).out
 ·rw [show ((12 : Nat) : Int) = 12 from rfl]
  replace M:=M.rd
  go_wp2_with fail
  refine (next_M D.d (by omega) (by decide) (by decide)).mono ?_
  rintro e W27 ⟨r,rfl,er,hr,d',b'⟩
  have Er:=hide er
  clear er
  have zW27:=b'.size
  replace T:=T.butM b' (by omega)
  replace M:=M.kp (dgK.but b' D.sB) neM
  replace Q:=Q.butM b' (by omega)
  replace D:=D.but b' d'
  clear b' d'
  have tc:W27.cell? ⟨w.heap.size,8,none⟩=some (.int .i64 n8):=T.cell 8
  obtain ⟨tf,OS,T1,Q1,D1,zz⟩:=setQ 8 (.int .i64 (1+(r:Int))) T Q D (by omega) (by omega)
  simp only [sS,sZ] at T1
  have M1:=M.kp (dgK.onl OS T) neM
  have M2:MsF (W27.setCell ⟨w.heap.size,8,none⟩ (.int .i64 (1+(r:Int)))) B (⟨m.k,m.v,m.r,m.s,m.ho,m.pr,m.ti,m.ag,1+(r:Int),m.bi,m.rs,m.ce,m.pf⟩:Msg) _ _ _ _ _ _ _ _ _ _ _ _ _:=⟨M1.i0,M1.i1,M1.b2,M1.b3,M1.s4,M1.t5,M1.b6,M1.i7,rfl,M1.b9,M1.o10,M1.c11,M1.b12⟩
  clear M M1 T Q D OS
  go_upto_region 42 with fail
  generalize W27.setCell ⟨w.heap.size,8,none⟩ (.int .i64 (1+(r:Int)))=W28 at *
  revert T1 Q1 D1 M2
  intro T Q D M
  clear tc tf
  have RG:=T.rangeG
  obtain ⟨THR,ONE,RR,MF,DF⟩:=M.fin Q D (by omega)
  clear M D Q T
  have EQ:Hid (brF xs t m=(⟨m.k,m.v,m.r,m.s,m.ho,m.pr,m.ti,m.ag,1+(r:Int),m.bi,m.rs,m.ce,m.pf⟩:Msg)):=by
   show _=_
   unfold brF
   simp only [Ek.out,show ((12:Nat):Int)=12 from rfl,Int.reduceEq,reduceIte,Er.out,Int.toNat_natCast]
  go_wp2_with (first | refine wpList_load_mid rfl 26 (.tmp 3) rfl _ 0 rfl _ dR RG hdR hrowR iM ?_ | refine wpList_store_mid rfl 26 (.tmp 4) (.tmp 138) rfl _ 0 _ rfl rfl THR iM ONE ?_)
  refine bodyPost_ret (v := .agg _) (results_cellG Tryz.results34 _ _ _ _ dR rfl RR hdR hrowR iM) rfl ?_
  exact (POST MF DF (by omega) EQ).out
 ·rw [show ((13 : Nat) : Int) = 13 from rfl]
  replace M:=M.rd
  go_wp2_with fail
  refine (next_M D.d (by omega) (by decide) (by decide)).mono ?_
  rintro e W29 ⟨r,rfl,er,hr,d',b'⟩
  have Er:=hide er
  clear er
  have zW29:=b'.size
  replace T:=T.butM b' (by omega)
  replace M:=M.kp (dgK.but b' D.sB) neM
  replace Q:=Q.butM b' (by omega)
  replace D:=D.but b' d'
  clear b' d'
  have tc:W29.cell? ⟨w.heap.size,8,none⟩=some (.int .i64 n8):=T.cell 8
  obtain ⟨tf,OS,T1,Q1,D1,zz⟩:=setQ 8 (.int .i64 (4294967295+(r:Int))) T Q D (by omega) (by omega)
  simp only [sS,sZ] at T1
  have M1:=M.kp (dgK.onl OS T) neM
  have M2:MsF (W29.setCell ⟨w.heap.size,8,none⟩ (.int .i64 (4294967295+(r:Int)))) B (⟨m.k,m.v,m.r,m.s,m.ho,m.pr,m.ti,m.ag,4294967295+(r:Int),m.bi,m.rs,m.ce,m.pf⟩:Msg) _ _ _ _ _ _ _ _ _ _ _ _ _:=⟨M1.i0,M1.i1,M1.b2,M1.b3,M1.s4,M1.t5,M1.b6,M1.i7,rfl,M1.b9,M1.o10,M1.c11,M1.b12⟩
  clear M M1 T Q D OS
  go_upto_region 42 with fail
  generalize W29.setCell ⟨w.heap.size,8,none⟩ (.int .i64 (4294967295+(r:Int)))=W30 at *
  revert T1 Q1 D1 M2
  intro T Q D M
  clear tc tf
  have RG:=T.rangeG
  obtain ⟨THR,ONE,RR,MF,DF⟩:=M.fin Q D (by omega)
  clear M D Q T
  have EQ:Hid (brF xs t m=(⟨m.k,m.v,m.r,m.s,m.ho,m.pr,m.ti,m.ag,4294967295+(r:Int),m.bi,m.rs,m.ce,m.pf⟩:Msg)):=by
   show _=_
   unfold brF
   simp only [Ek.out,show ((13:Nat):Int)=13 from rfl,Int.reduceEq,reduceIte,Er.out,Int.toNat_natCast]
  go_wp2_with (first | refine wpList_load_mid rfl 26 (.tmp 3) rfl _ 0 rfl _ dR RG hdR hrowR iM ?_ | refine wpList_store_mid rfl 26 (.tmp 4) (.tmp 138) rfl _ 0 _ rfl rfl THR iM ONE ?_)
  refine bodyPost_ret (v := .agg _) (results_cellG Tryz.results34 _ _ _ _ dR rfl RR hdR hrowR iM) rfl ?_
  exact (POST MF DF (by omega) EQ).out
 ·rw [show ((14 : Nat) : Int) = 14 from rfl]
  replace M:=M.rd
  go_wp2_with fail
  refine (next_M D.d (by omega) (by decide) (by decide)).mono ?_
  rintro e W31 ⟨r,rfl,er,hr,d',b'⟩
  have Er:=hide er
  clear er
  have zW31:=b'.size
  replace T:=T.butM b' (by omega)
  replace M:=M.kp (dgK.but b' D.sB) neM
  replace Q:=Q.butM b' (by omega)
  replace D:=D.but b' d'
  clear b' d'
  obtain ⟨j,hj⟩:∃ j:Nat,j=32*r:=⟨_,rfl⟩
  have qj:j≤70:=by omega
  have wj:IntKind.i64.wrap (32*(r:Int))=(j:Int):=by rw [IntKind.wrap_i64];omega
  have wj':32*(r:Int)=(j:Int):=by omega
  have HJ:=hide hj
  clear hj
  go_wp2_with fail
  try rw [wj']
  clear wj wj' hr
  refine (drawBytes_M D.d j (by omega)).mono ?_
  rintro e W32 ⟨v',rfl,yb,R',d',b'⟩
  obtain ⟨Xx,hXx⟩:∃ X,X=dbF xs (t+1+1) j:=⟨_,rfl⟩
  have yl:Xx.length=j:=by rw [hXx,dbF_len]
  rw [← hXx] at R' yb
  have fx:dgB W32 B v' Xx:=dgB.row R' (by omega) yb (by omega)
  obtain ⟨ax,lx,cx,rfl⟩:=fx.form
  have EXx:=hide hXx
  clear R' yl yb hXx
  have zW32:=b'.size
  replace T:=T.butM b' (by omega)
  replace M:=M.kp (dgK.but b' D.sB) neM
  replace Q:=Q.butM b' (by omega)
  replace D:=D.but b' d'
  clear b' d'
  have tc:W32.cell? ⟨w.heap.size,9,none⟩=some (.slice a9 l9 c9):=T.cell 9
  obtain ⟨tf,OS,T1,Q1,D1,zz⟩:=setQ 9 (.slice ax lx cx) T Q D (by omega) (by omega)
  simp only [sS,sZ] at T1
  have M1:=M.kp (dgK.onl OS T) neM
  have nf:=fx.kp (dgK.onl OS T) (by decide)
  have M2:MsF (W32.setCell ⟨w.heap.size,9,none⟩ (.slice ax lx cx)) B (⟨m.k,m.v,m.r,m.s,m.ho,m.pr,m.ti,m.ag,m.ea,Xx,m.rs,m.ce,m.pf⟩:Msg) _ _ _ _ _ _ _ _ _ _ _ _ _:=⟨M1.i0,M1.i1,M1.b2,M1.b3,M1.s4,M1.t5,M1.b6,M1.i7,M1.i8,nf,M1.o10,M1.c11,M1.b12⟩
  clear M M1 T Q D OS nf
  go_upto_region 42 with fail
  generalize W32.setCell ⟨w.heap.size,9,none⟩ (.slice ax lx cx)=W33 at *
  revert T1 Q1 D1 M2
  intro T Q D M
  clear tc tf
  have RG:=T.rangeG
  obtain ⟨THR,ONE,RR,MF,DF⟩:=M.fin Q D (by omega)
  clear M D Q T
  have EQ:Hid (brF xs t m=(⟨m.k,m.v,m.r,m.s,m.ho,m.pr,m.ti,m.ag,m.ea,Xx,m.rs,m.ce,m.pf⟩:Msg)):=by
   show _=_
   unfold brF
   simp only [Ek.out,show ((14:Nat):Int)=14 from rfl,Int.reduceEq,reduceIte,Er.out,← HJ.out,← EXx.out,Int.toNat_natCast]
  go_wp2_with (first | refine wpList_load_mid rfl 26 (.tmp 3) rfl _ 0 rfl _ dR RG hdR hrowR iM ?_ | refine wpList_store_mid rfl 26 (.tmp 4) (.tmp 138) rfl _ 0 _ rfl rfl THR iM ONE ?_)
  refine bodyPost_ret (v := .agg _) (results_cellG Tryz.results34 _ _ _ _ dR rfl RR hdR hrowR iM) rfl ?_
  exact (POST MF DF (by omega) EQ).out
 ·rw [show ((15 : Nat) : Int) = 15 from rfl]
  replace M:=M.rd
  have tc:W1.cell? ⟨w.heap.size,10,none⟩=some (.bool b10):=T.cell 10
  obtain ⟨tf,OS,T1,Q1,D1,zz⟩:=setQ 10 (.bool true) T Q D (by omega) (by omega)
  simp only [sS,sZ] at T1
  have M1:=M.kp (dgK.onl OS T) neM
  have M2:MsF (W1.setCell ⟨w.heap.size,10,none⟩ (.bool true)) B (⟨m.k,m.v,m.r,m.s,m.ho,m.pr,m.ti,m.ag,m.ea,m.bi,true,m.ce,m.pf⟩:Msg) _ _ _ _ _ _ _ _ _ _ _ _ _:=⟨M1.i0,M1.i1,M1.b2,M1.b3,M1.s4,M1.t5,M1.b6,M1.i7,M1.i8,M1.b9,rfl,M1.c11,M1.b12⟩
  clear M M1 T Q D OS
  go_upto_region 42 with fail
  generalize W1.setCell ⟨w.heap.size,10,none⟩ (.bool true)=W34 at *
  revert T1 Q1 D1 M2
  intro T Q D M
  clear tc tf
  have RG:=T.rangeG
  obtain ⟨THR,ONE,RR,MF,DF⟩:=M.fin Q D (by omega)
  clear M D Q T
  have EQ:Hid (brF xs t m=(⟨m.k,m.v,m.r,m.s,m.ho,m.pr,m.ti,m.ag,m.ea,m.bi,true,m.ce,m.pf⟩:Msg)):=by
   show _=_
   unfold brF
   simp only [Ek.out,show ((15:Nat):Int)=15 from rfl,Int.reduceEq,reduceIte]
  go_wp2_with (first | refine wpList_load_mid rfl 26 (.tmp 3) rfl _ 0 rfl _ dR RG hdR hrowR iM ?_ | refine wpList_store_mid rfl 26 (.tmp 4) (.tmp 138) rfl _ 0 _ rfl rfl THR iM ONE ?_)
  refine bodyPost_ret (v := .agg _) (results_cellG Tryz.results34 _ _ _ _ dR rfl RR hdR hrowR iM) rfl ?_
  exact (POST MF DF (by omega) EQ).out
 ·rw [show ((16 : Nat) : Int) = 16 from rfl]
  have N1:Hid (Calls Tryz.prog 29 #[.pointer (some ⟨s,0,none⟩),.int .i64 2] W1.drew fun e w2=>∃ (r:Nat) (w3:World),e = .returned (.int .i64 (r:Int))∧(r:Int) < 2∧Hid (nxF xs (t+1) 2=(r:Int))∧IntKind.i64.wrap (2000+(r:Int))=2000+(r:Int)∧(Instr.makeSlice 22 (.int .i64 (2000+(r:Int))) (.int .i64 (2000+(r:Int)))).run Tryz.prog w2 = .ok (.slice (some ⟨w2.heap.size,0,none⟩) (2000+r) (2000+r)) w3∧w2.cell? ⟨w.heap.size,11,none⟩=some (.slice a11 l11 c11)∧w3.cell? ⟨w.heap.size,11,none⟩=some (.slice a11 l11 c11)∧(w3.alloc (.cells #[.slice (some ⟨w2.heap.size,0,none⟩) (2000+r) (2000+r)] 52)).cell? ⟨w.heap.size,11,none⟩=some (.slice a11 l11 c11)∧∃ v' w4,(Builtin.append_ #[24,24] 24 #[.slice a11 l11 c11,.slice (some ⟨w3.heap.size,0,none⟩) 1 1]).run Tryz.prog (w3.alloc (.cells #[.slice (some ⟨w2.heap.size,0,none⟩) (2000+r) (2000+r)] 52)) = .ok v' w4∧((∃ av lv cv,v' = .slice av lv cv)∧w4.cell? ⟨w.heap.size,11,none⟩=some (.slice a11 l11 c11)∧w4.frozen? ⟨w.heap.size,11,none⟩=false∧Hid (∃ u:Int,u≤t+10∧RwC (w4.setCell ⟨w.heap.size,11,none⟩ v') w.heap.size [.int .i64 n0,.int .i64 n1,.slice a2 l2 c2,.slice a3 l3 c3,.string ⟨⟨h4⟩⟩,.slice a5 l5 c5,.slice a6 l6 c6,.int .i64 n7,.int .i64 n8,.slice a9 l9 c9,.bool b10,v',.slice a12 l12 c12] 26∧RwC (w4.setCell ⟨w.heap.size,11,none⟩ v') (w.heap.size+1) [.int .i64 0,.int .i64 0,.slice none 0 0,.slice none 0 0,.string ⟨#[]⟩,.slice none 0 0,.slice none 0 0,.int .i64 0,.int .i64 0,.slice none 0 0,.bool false,.slice none 0 0,.slice none 0 0] 26∧MsF (w4.setCell ⟨w.heap.size,11,none⟩ v') B (⟨m.k,m.v,m.r,m.s,m.ho,m.pr,m.ti,m.ag,m.ea,m.bi,m.rs,m.ce ++ [List.replicate (2000+r) 0],m.pf⟩:Msg) (.int .i64 n0) (.int .i64 n1) (.slice a2 l2 c2) (.slice a3 l3 c3) (.string ⟨⟨h4⟩⟩) (.slice a5 l5 c5) (.slice a6 l6 c6) (.int .i64 n7) (.int .i64 n8) (.slice a9 l9 c9) (.bool b10) (v') (.slice a12 l12 c12)∧Dq w (w4.setCell ⟨w.heap.size,11,none⟩ v') s g a c xs B u∧w4.heap.size=(w4.setCell ⟨w.heap.size,11,none⟩ v').heap.size∧w.heap.size+2≤w4.heap.size))):=by
   have nd:Below W1.heap.size W1 W1.drew:=(Below.refl _ _).drew
   have D0:=D.up nd
   have T0:=T.up nd
   have Q0:=Q.up nd
   have M0:=M.kp (dgK.up nd) neM
   have zd:W1.drew.heap.size=W1.heap.size:=rfl
   refine (next_M D0.d (by omega) (by decide) (by decide)).mono ?_
   rintro e w2 ⟨r,rfl,er,hr,d',b'⟩
   have z2:=b'.size
   have T2:=T0.butM b' (by omega)
   have Q2:=Q0.butM b' (by omega)
   have M2:=M0.kp (dgK.but b' D.sB) neM
   have D2:=D0.but b' d'
   obtain ⟨w3,hrun,hown,hgrow⟩:=run_make_full (P:=Tryz.prog) w2 w2.heap.size 22 5 i0 (.int .u8 0) 1 Tryz.underlying22 hi hz0 hz1 .i64 .i64 (2000+r) (by rw [hz2];omega) (by unfold maxLen;omega) (Nat.le_refl _)
   rw [show ((2000+r:Nat):Int)=2000+(r:Int) by omega] at hrun
   have n3:Below w2.heap.size w2 w3:=(Below.refl _ _).grown hgrow (Nat.le_refl _) (by simp)
   have z3:=n3.size
   have fx:=make_row (by omega) hown
   have T3:=T2.up n3
   have Q3:=Q2.up n3
   have M3:=M2.kp (dgK.up n3) neM
   have D3:=D2.up n3
   obtain ⟨v',w4,h1,R',⟨av,lv,cv,rfl⟩,nB,K⟩:=dgE.app M2.c11 (dgK.up n3) z3 fx.1 (by simp;omega) fx.2 (by omega) (by decide)
   have z4:=nB.size
   have T4:=T3.kpM K (by omega) (by decide)
   have Q4:=Q3.kpM K (by omega) (by decide)
   have M4:=M3.kpC K (R'.rd (by decide))
   have D4:=D3.app nB K (.inr rfl)
   have OS:=Only.setCell w4 w.heap.size 11 (.slice av lv cv)
   exact ⟨r,w3,rfl,hr,er,by rw [IntKind.wrap_i64];omega,hrun,T2.cell 11,T3.cell 11,(T3.push _).cell 11,_,w4,h1,⟨av,lv,cv,rfl⟩,T4.cell 11,T4.free 11,_,by omega,T4.set 11 _,Q4.onl OS (by omega),M4.kp (dgK.onl OS T4) neM,D4.onl OS (by omega),OS.size.symm,by omega⟩
  have t11:W1.cell? ⟨w.heap.size,11,none⟩=some (.slice a11 l11 c11):=T.cell 11
  clear M T Q D
  go_upto_region 35 with fail
  go_region_law (first
   | (go_simp;go_at_call 29;refine N1.out.mono ?_;rintro e w2 ⟨r,w3,rfl,hr2,Er,wr2,mk,m2,m3,m4,AP⟩)
   | (refine step_append_exM rfl (.tmp 105) (.tmp 111) 24 24 rfl (.slice a11 l11 c11) (.slice (some ⟨w3.heap.size,0,none⟩) 1 1) rfl rfl _ AP ?_;rintro v3 w4 ⟨⟨av,lv,cv,rfl⟩,m5,f5,FF⟩)
   | fail)
  all_goals
   obtain ⟨u,hu,T,Q,M,D,zz,z4⟩:=FF.out
   clear N1 AP mk m2 m3 m4 FF t11 wr2
   go_upto_region 42 with fail
   generalize w4.setCell ⟨w.heap.size,11,none⟩ (.slice av lv cv)=WX at *
   clear m5 f5
   have RG:=T.rangeG
   obtain ⟨THR,ONE,RR,MF,DF⟩:=M.fin Q D (by omega)
   clear M D Q T
   have EQ:Hid (brF xs t m=(⟨m.k,m.v,m.r,m.s,m.ho,m.pr,m.ti,m.ag,m.ea,m.bi,m.rs,m.ce ++ [List.replicate (2000+r) 0],m.pf⟩:Msg)):=by
    show _=_
    unfold brF
    simp only [Ek.out,show ((16:Nat):Int)=16 from rfl,Int.reduceEq,reduceIte,Er.out,Int.toNat_natCast]
   go_wp2_with (first | refine wpList_load_mid rfl 26 (.tmp 3) rfl _ 0 rfl _ dR RG hdR hrowR iM ?_ | refine wpList_store_mid rfl 26 (.tmp 4) (.tmp 138) rfl _ 0 _ rfl rfl THR iM ONE ?_)
   refine bodyPost_ret (v := .agg _) (results_cellG Tryz.results34 _ _ _ _ dR rfl RR hdR hrowR iM) rfl ?_
   exact (POST MF DF (by omega) EQ).out
 ·rw [show ((17 : Nat) : Int) = 17 from rfl]
  obtain ⟨v',W35,h1,R',⟨av,lv,cv,rfl⟩,nB,K⟩:=dgE.app (vx := .slice none 0 0) (X:=[]) M.c11 (dgK.up (Below.refl _ _)) (Nat.le_refl _) ⟨rfl,.inl ⟨rfl,rfl⟩⟩ (by simp) (fun i=>by simp) (by omega) (by decide)
  have zN:=nB.size
  have t11:W1.cell? ⟨w.heap.size,11,none⟩=some (.slice a11 l11 c11):=T.cell 11
  have t11':(W1.alloc (.cells #[.slice none 0 0] 52)).cell? ⟨w.heap.size,11,none⟩=some (.slice a11 l11 c11):=(T.push _).cell 11
  have MT:=M.kpC K (R'.rd (by decide))
  replace T:=T.kpM K (by omega) (by decide)
  replace Q:=Q.kpM K (by omega) (by decide)
  replace D:=D.app nB K (.inr rfl)
  clear M R' nB
  have M:=MT
  clear MT K
  have tc:W35.cell? ⟨w.heap.size,11,none⟩=some (.slice a11 l11 c11):=T.cell 11
  have tf:=T.free 11
  have OS:=Only.setCell W35 w.heap.size 11 (.slice av lv cv)
  have T1:RwC (W35.setCell ⟨w.heap.size,11,none⟩ (.slice av lv cv)) w.heap.size [.int .i64 n0,.int .i64 n1,.slice a2 l2 c2,.slice a3 l3 c3,.string ⟨⟨h4⟩⟩,.slice a5 l5 c5,.slice a6 l6 c6,.int .i64 n7,.int .i64 n8,.slice a9 l9 c9,.bool b10,.slice av lv cv,.slice a12 l12 c12] 26:=T.set 11 _
  have Q1:=Q.onl OS (by omega)
  have D1:=D.onl OS (by omega)
  have M2:=M.kp (dgK.onl OS T) neM
  have zz:=OS.size
  clear M T Q D OS
  go_upto_region 42 with (at_builtin;refine Lib.wpList_append_run _ rfl _ _ 24 24 rfl _ _ rfl rfl _ _ h1 ?_)
  clear h1 t11 t11'
  generalize W35.setCell ⟨w.heap.size,11,none⟩ (.slice av lv cv)=W36 at *
  revert T1 Q1 D1 M2
  intro T Q D M
  clear tc tf
  have RG:=T.rangeG
  obtain ⟨THR,ONE,RR,MF,DF⟩:=M.fin Q D (by omega)
  clear M D Q T
  have EQ:Hid (brF xs t m=(⟨m.k,m.v,m.r,m.s,m.ho,m.pr,m.ti,m.ag,m.ea,m.bi,m.rs,m.ce ++ [[]],m.pf⟩:Msg)):=by
   show _=_
   unfold brF
   simp only [Ek.out,show ((17:Nat):Int)=17 from rfl,Int.reduceEq,reduceIte]
  go_wp2_with (first | refine wpList_load_mid rfl 26 (.tmp 3) rfl _ 0 rfl _ dR RG hdR hrowR iM ?_ | refine wpList_store_mid rfl 26 (.tmp 4) (.tmp 138) rfl _ 0 _ rfl rfl THR iM ONE ?_)
  refine bodyPost_ret (v := .agg _) (results_cellG Tryz.results34 _ _ _ _ dR rfl RR hdR hrowR iM) rfl ?_
  exact (POST MF DF (by omega) EQ).out
 ·rw [show ((18 : Nat) : Int) = 18 from rfl]
  replace M:=M.rd
  go_wp2_with fail
  refine (next_M D.d (by omega) (by decide) (by decide)).mono ?_
  rintro e W37 ⟨r,rfl,er,hr,d',b'⟩
  have Er:=hide er
  clear er
  have zW37:=b'.size
  replace T:=T.butM b' (by omega)
  replace M:=M.kp (dgK.but b' D.sB) neM
  replace Q:=Q.butM b' (by omega)
  replace D:=D.but b' d'
  clear b' d'
  obtain ⟨j,hj⟩:∃ j:Nat,j=32+32*r:=⟨_,rfl⟩
  have qj:j≤70:=by omega
  have wj:IntKind.i64.wrap (32+32*(r:Int))=(j:Int):=by rw [IntKind.wrap_i64];omega
  have wj':32+32*(r:Int)=(j:Int):=by omega
  have HJ:=hide hj
  clear hj
  go_wp2_with fail
  try rw [wj']
  clear wj wj' hr
  refine (drawBytes_M D.d j (by omega)).mono ?_
  rintro e W38 ⟨v',rfl,yb,R',d',b'⟩
  obtain ⟨Xx,hXx⟩:∃ X,X=dbF xs (t+1+1) j:=⟨_,rfl⟩
  have yl:Xx.length=j:=by rw [hXx,dbF_len]
  rw [← hXx] at R' yb
  have fx:dgB W38 B v' Xx:=dgB.row R' (by omega) yb (by omega)
  obtain ⟨ax,lx,cx,rfl⟩:=fx.form
  have EXx:=hide hXx
  clear R' yl yb hXx
  have zW38:=b'.size
  replace T:=T.butM b' (by omega)
  replace M:=M.kp (dgK.but b' D.sB) neM
  replace Q:=Q.butM b' (by omega)
  replace D:=D.but b' d'
  clear b' d'
  have tc:W38.cell? ⟨w.heap.size,12,none⟩=some (.slice a12 l12 c12):=T.cell 12
  obtain ⟨tf,OS,T1,Q1,D1,zz⟩:=setQ 12 (.slice ax lx cx) T Q D (by omega) (by omega)
  simp only [sS,sZ] at T1
  have M1:=M.kp (dgK.onl OS T) neM
  have nf:=fx.kp (dgK.onl OS T) (by decide)
  have M2:MsF (W38.setCell ⟨w.heap.size,12,none⟩ (.slice ax lx cx)) B (⟨m.k,m.v,m.r,m.s,m.ho,m.pr,m.ti,m.ag,m.ea,m.bi,m.rs,m.ce,Xx⟩:Msg) _ _ _ _ _ _ _ _ _ _ _ _ _:=⟨M1.i0,M1.i1,M1.b2,M1.b3,M1.s4,M1.t5,M1.b6,M1.i7,M1.i8,M1.b9,M1.o10,M1.c11,nf⟩
  clear M M1 T Q D OS nf
  go_upto_region 42 with fail
  generalize W38.setCell ⟨w.heap.size,12,none⟩ (.slice ax lx cx)=W39 at *
  revert T1 Q1 D1 M2
  intro T Q D M
  clear tc tf
  have RG:=T.rangeG
  obtain ⟨THR,ONE,RR,MF,DF⟩:=M.fin Q D (by omega)
  clear M D Q T
  have EQ:Hid (brF xs t m=(⟨m.k,m.v,m.r,m.s,m.ho,m.pr,m.ti,m.ag,m.ea,m.bi,m.rs,m.ce,Xx⟩:Msg)):=by
   show _=_
   unfold brF
   simp only [Ek.out,show ((18:Nat):Int)=18 from rfl,Int.reduceEq,reduceIte,Er.out,← HJ.out,← EXx.out,Int.toNat_natCast]
  go_wp2_with (first | refine wpList_load_mid rfl 26 (.tmp 3) rfl _ 0 rfl _ dR RG hdR hrowR iM ?_ | refine wpList_store_mid rfl 26 (.tmp 4) (.tmp 138) rfl _ 0 _ rfl rfl THR iM ONE ?_)
  refine bodyPost_ret (v := .agg _) (results_cellG Tryz.results34 _ _ _ _ dR rfl RR hdR hrowR iM) rfl ?_
  exact (POST MF DF (by omega) EQ).out
 ·rw [show ((19 : Nat) : Int) = 19 from rfl]
  replace M:=M.rd
  have nA:Below W1.heap.size W1 (W1.alloc (.cells #[Value.string (ByteArray.mk #[49]),Value.string (ByteArray.mk #[50]),Value.string (ByteArray.mk #[51]),Value.string (ByteArray.mk #[52]),Value.string (ByteArray.mk #[53]),Value.string (ByteArray.mk #[54]),Value.string (ByteArray.mk #[55]),Value.string (ByteArray.mk #[56]),Value.string (ByteArray.mk #[57])] 9)):=(Below.refl _ _).alloc (Nat.le_refl _) _
  have BL:BlkT (W1.alloc (.cells #[Value.string (ByteArray.mk #[49]),Value.string (ByteArray.mk #[50]),Value.string (ByteArray.mk #[51]),Value.string (ByteArray.mk #[52]),Value.string (ByteArray.mk #[53]),Value.string (ByteArray.mk #[54]),Value.string (ByteArray.mk #[55]),Value.string (ByteArray.mk #[56]),Value.string (ByteArray.mk #[57])] 9)) W1.heap.size nineT:=heap_alloc_new _ _
  have zA:(W1.alloc (.cells #[Value.string (ByteArray.mk #[49]),Value.string (ByteArray.mk #[50]),Value.string (ByteArray.mk #[51]),Value.string (ByteArray.mk #[52]),Value.string (ByteArray.mk #[53]),Value.string (ByteArray.mk #[54]),Value.string (ByteArray.mk #[55]),Value.string (ByteArray.mk #[56]),Value.string (ByteArray.mk #[57])] 9)).heap.size=W1.heap.size+1:=by simp
  replace T:=T.up nA
  replace Q:=Q.up nA
  replace M:=M.kp (dgK.up nA) neM
  replace D:=D.up nA
  clear nA
  go_wp2_with fail
  generalize W1.alloc (.cells #[Value.string (ByteArray.mk #[49]),Value.string (ByteArray.mk #[50]),Value.string (ByteArray.mk #[51]),Value.string (ByteArray.mk #[52]),Value.string (ByteArray.mk #[53]),Value.string (ByteArray.mk #[54]),Value.string (ByteArray.mk #[55]),Value.string (ByteArray.mk #[56]),Value.string (ByteArray.mk #[57])] 9)=W40 at *
  refine (next_M D.d (by omega) (by decide) (by decide)).mono ?_
  rintro e W41 ⟨r,rfl,er,hr,d',b'⟩
  have Er:=hide er
  clear er
  replace BL:BlkT W41 W1.heap.size nineT:=(b'.block _ BL.lt (by omega)).trans BL
  have zW41:=b'.size
  replace T:=T.butM b' (by omega)
  replace M:=M.kp (dgK.but b' D.sB) neM
  replace Q:=Q.butM b' (by omega)
  replace D:=D.but b' d'
  clear b' d'
  have r2:r < 2:=by omega
  have fu:dgU W41 B (.slice (some ⟨W1.heap.size,r,none⟩) (9 - r) (9 - r)) (nineT.drop r):=nine_u BL r r2 (by omega)
  clear BL
  have tc:W41.cell? ⟨w.heap.size,5,none⟩=some (.slice a5 l5 c5):=T.cell 5
  obtain ⟨tf,OS,T1,Q1,D1,zz⟩:=setQ 5 (.slice (some ⟨W1.heap.size,r,none⟩) (9 - r) (9 - r)) T Q D (by omega) (by omega)
  simp only [sS,sZ] at T1
  have M1:=M.kp (dgK.onl OS T) neM
  have nf:=fu.kp (dgK.onl OS T) (by decide)
  have M2:MsF (W41.setCell ⟨w.heap.size,5,none⟩ (.slice (some ⟨W1.heap.size,r,none⟩) (9 - r) (9 - r))) B (⟨m.k,m.v,m.r,m.s,m.ho,nineT.drop r,m.ti,m.ag,m.ea,m.bi,m.rs,m.ce,m.pf⟩:Msg) _ _ _ _ _ _ _ _ _ _ _ _ _:=⟨M1.i0,M1.i1,M1.b2,M1.b3,M1.s4,nf,M1.b6,M1.i7,M1.i8,M1.b9,M1.o10,M1.c11,M1.b12⟩
  clear M M1 T Q D OS nf
  go_upto_region 42 with fail
  generalize W41.setCell ⟨w.heap.size,5,none⟩ (.slice (some ⟨W1.heap.size,r,none⟩) (9 - r) (9 - r))=W42 at *
  revert T1 Q1 D1 M2
  intro T Q D M
  clear tc tf
  have RG:=T.rangeG
  obtain ⟨THR,ONE,RR,MF,DF⟩:=M.fin Q D (by omega)
  clear M D Q T
  have EQ:Hid (brF xs t m=(⟨m.k,m.v,m.r,m.s,m.ho,nineT.drop r,m.ti,m.ag,m.ea,m.bi,m.rs,m.ce,m.pf⟩:Msg)):=by
   show _=_
   unfold brF
   simp only [Ek.out,show ((19:Nat):Int)=19 from rfl,Int.reduceEq,reduceIte,Er.out,Int.toNat_natCast]
  go_wp2_with (first | refine wpList_load_mid rfl 26 (.tmp 3) rfl _ 0 rfl _ dR RG hdR hrowR iM ?_ | refine wpList_store_mid rfl 26 (.tmp 4) (.tmp 138) rfl _ 0 _ rfl rfl THR iM ONE ?_)
  refine bodyPost_ret (v := .agg _) (results_cellG Tryz.results34 _ _ _ _ dR rfl RR hdR hrowR iM) rfl ?_
  exact (POST MF DF (by omega) EQ).out
end Go.Proofs.YtmmbkkfjiaoeiaaGreat
