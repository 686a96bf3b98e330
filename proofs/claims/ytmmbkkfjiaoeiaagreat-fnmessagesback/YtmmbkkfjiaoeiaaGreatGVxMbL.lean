import Derived.Test.YtmmbkkfjiaoeiaaGreatGV22
import Derived.Deep.DeepCutAuto
namespace Go.Proofs.YtmmbkkfjiaoeiaaGreat
open Go Go.RowKit
theorem wpList_load_midM {P:Program} {ops:Array Oper} {rest:List Oper} {op:Oper} {a:Act} {w:World} {Q:Exit→Act→World→Prop} (hw:Region.wanted op (yielded ops a.tmps)=true) (ty:TypeId) (x:Operand) (ho:op.op = .load ty x)
  (b o:Nat) (hx:a.eval x = .pointer (some ⟨b,o,none⟩)) (cs:List Value) (d:TypeDesc) (hc:w.rangeAt b o cs)
  (hu:P.underlying ty=some d) (hd:d.isRow=true) (hi:(P.info? ty).map (·.size)=some cs.length)
  (h:wpList P ops Q rest (a.put op.dst (.agg cs.toArray)) w):wpList P ops Q (op :: rest) a w:=by
 unfold wpList
 rw [if_pos hw]
 exact .inl (wp_load_mid ty x ho b o hx cs d hc hu hd hi h)
theorem nxtM {b:Nat} {a u v:World} (h:Below b a u) (n:Below u.heap.size u v) (hb:b≤u.heap.size:=by omega):Below b a v:=h.trans (n.mono hb)
set_option maxRecDepth 100000 in
set_option maxHeartbeats 16000000 in
theorem messagesBack_law (w : World) (g0 : Nat) (a0 : Option Addr) (c0 : Nat) (X0 : List Int) (hX0 : Rd w g0 a0 .u8 X0) (bX0 : Byt X0) (g1 : Nat) (a1 : Option Addr) (c1 : Nat) (X1 : List Int) (hX1 : Rd w g1 a1 .u8 X1) (bX1 : Byt X1) :
  Calls Tryz.prog 3 #[.slice a0 X0.length c0,.slice a1 X1.length c1] w fun e w'=>e = .returned (.bool true)∧Below w.heap.size w w':=by
 by_cases q0:X0.length≤1048576
 rotate_left
 ·have y0 : decide ((1048576 : Int) < (X0.length : Int)) = true := by simp; omega
  go_enter Tryz.func3,Tryz.ntmps3
  go_wp2
  go_ret
  exact ⟨rfl,Below.refl _ _⟩
 have y0:decide ((1048576:Int) < (X0.length:Int))=false:=by simp;omega
 by_cases q1:X1.length≤1048576
 rotate_left
 ·have y1 : decide ((1048576 : Int) < (X1.length : Int)) = true := by simp; omega
  go_enter Tryz.func3,Tryz.ntmps3
  go_wp2
  go_ret
  exact ⟨rfl,Below.refl _ _⟩
 have y1:decide ((1048576:Int) < (X1.length:Int))=false:=by simp;omega
 obtain ⟨dR,hdR,hrowR⟩:=rowM
 obtain ⟨d15,hd15,hrow15⟩:=rowMR
 obtain ⟨i0,hi0,hz0,hz1,hz2⟩:=info_parts Tryz.info5
 obtain ⟨m,hm⟩:∃ m,m=mbF X0:=⟨_,rfl⟩
 have DR:Hid (∀ W,Below w.heap.size w W→Calls Tryz.prog 4 #[.slice a0 X0.length c0] W fun e w'=>(∃ q,e = .returned (.agg (mgV q m))∧HasM w' q m∧HasZ q m)∧IsM m∧Below W.heap.size W w'):=fun W hW=>by
  rw [hm]
  exact draw_Q W g0 a0 c0 X0 (hX0.up hW) bX0 q0
 have HO:=hide hX1
 clear hm hX0 hX1
 go_enter Tryz.func3,Tryz.ntmps3
 go_wp2_with fail
 refine (DR.out w (Below.refl _ _)).mono ?_
 rintro e W1 ⟨⟨p,rfl,HM,HZ⟩,IM,n1⟩
 unfold mgV
 have nb:Below W1.heap.size W1 (W1.alloc (.cells #[.int .i64 m.k,.int .i64 m.v,.slice p.a2 m.r.length p.c2,.slice p.a3 m.s.length p.c3,.string ⟨⟨m.ho⟩⟩,.slice p.a5 m.pr.length p.c5,.slice p.a6 m.ti.length p.c6,.int .i64 m.ag,.int .i64 m.ea,.slice p.a9 m.bi.length p.c9,.bool m.rs,.slice p.a11 m.ce.length p.c11,.slice p.a12 m.pf.length p.c12] 26)):=(Below.refl _ _).alloc (Nat.le_refl _) _
 have T:RwC (W1.alloc (.cells #[.int .i64 m.k,.int .i64 m.v,.slice p.a2 m.r.length p.c2,.slice p.a3 m.s.length p.c3,.string ⟨⟨m.ho⟩⟩,.slice p.a5 m.pr.length p.c5,.slice p.a6 m.ti.length p.c6,.int .i64 m.ag,.int .i64 m.ea,.slice p.a9 m.bi.length p.c9,.bool m.rs,.slice p.a11 m.ce.length p.c11,.slice p.a12 m.pf.length p.c12] 26)) W1.heap.size [.int .i64 m.k,.int .i64 m.v,.slice p.a2 m.r.length p.c2,.slice p.a3 m.s.length p.c3,.string ⟨⟨m.ho⟩⟩,.slice p.a5 m.pr.length p.c5,.slice p.a6 m.ti.length p.c6,.int .i64 m.ag,.int .i64 m.ea,.slice p.a9 m.bi.length p.c9,.bool m.rs,.slice p.a11 m.ce.length p.c11,.slice p.a12 m.pf.length p.c12] 26:=RwC.new _ _ _
 have s1:=n1.size
 have N2:=hide (nxtM n1 nb)
 have HM2:=hide (HM.up nb)
 clear n1 nb HM
 go_upto_region 4 with fail
 generalize W1.alloc (.cells #[.int .i64 m.k,.int .i64 m.v,.slice p.a2 m.r.length p.c2,.slice p.a3 m.s.length p.c3,.string ⟨⟨m.ho⟩⟩,.slice p.a5 m.pr.length p.c5,.slice p.a6 m.ti.length p.c6,.int .i64 m.ag,.int .i64 m.ea,.slice p.a9 m.bi.length p.c9,.bool m.rs,.slice p.a11 m.ce.length p.c11,.slice p.a12 m.pf.length p.c12] 26)=W2 at *
 obtain ⟨b5,hb5⟩:∃ g,W1.heap.size=g:=⟨_,rfl⟩
 rw [hb5] at T ⊢
 clear hb5 s1
 have EN:=hide (implEnc_any W2 p m HM2.out IM HZ)
 have RG:=T.rangeG
 have TT:=hide T
 clear T
 go_wp2_with (first | (refine wpList_load_midM rfl 26 (.tmp 5) rfl b5 0 rfl [.int .i64 m.k,.int .i64 m.v,.slice p.a2 m.r.length p.c2,.slice p.a3 m.s.length p.c3,.string ⟨⟨m.ho⟩⟩,.slice p.a5 m.pr.length p.c5,.slice p.a6 m.ti.length p.c6,.int .i64 m.ag,.int .i64 m.ea,.slice p.a9 m.bi.length p.c9,.bool m.rs,.slice p.a11 m.ce.length p.c11,.slice p.a12 m.pf.length p.c12] dR RG hdR hrowR iM ?_) | fail)
 refine EN.out.mono ?_
 rintro e W3 ⟨⟨vb,rfl,Rb⟩,n3⟩
 obtain ⟨ab,cb,gb,rfl,ob,zb,kb,_⟩:=Rb.own
 have s2:=N2.out.size
 have N3:=hide (nxtM N2.out n3)
 have T3:=hide (TT.out.up n3)
 have HM3:=hide (HM2.out.up n3)
 have OB:=hide ob.rd
 clear EN RG TT HM2 N2 n3 Rb ob
 have s3:=N3.out.size
 have D4:=hide (DR.out W3 N3.out)
 have IH:=hide IM
 clear IM
 obtain ⟨le,hle⟩:∃ l,l=(encF m).length:=⟨_,rfl⟩
 have EL:=enc_le m
 rw [← hle] at EL
 rw [← hle]
 have HL:=hide hle
 clear hle
 go_upto_region 5 with fail
 go_cut [38] (fun v wc=>v = .bool false∧Below W3.heap.size W3 wc)
 case first =>
  by_cases mz:mfF m=0
  ·have l4 : 4 ≤ le := by rw [HL.out, enc_len mz]; omega
   have l0:(0:Int) < (le:Int):=by omega
   have l1:0 < le:=by omega
   have l0':decide ((0:Int) < (le:Int))=true:=decide_eq_true l0
   go_wp2_with fail
   refine D4.out.mono ?_
   rintro e W4 ⟨⟨p4,rfl,HM4,HZ4⟩,-,n4⟩
   have SM:=hide (specMF_any W4 p4 m HM4 IH.out)
   rw [mz] at SM
   clear HM4 HZ4 D4
   go_wp2_with fail
   refine SM.out.mono ?_
   rintro e W5 ⟨rfl,n5⟩
   have N5:=hide (nxtM n4 n5 (by have:=n4.size;omega))
   have T5:=(T3.out.up n4).up n5
   have HM5:=hide ((HM3.out.up n4).up n5)
   clear SM T3 HM3 n4 n5
   have MI:=hide (implMF_any W5 p m HM5.out IH.out)
   rw [mz] at MI
   have RG:=T5.rangeG
   have TT:=hide T5
   clear T5
   go_wp2_with (first | (refine wpList_load_midM (by first | rfl | simp [*,Region.wanted,yielded]) 26 (.tmp 5) rfl b5 0 rfl [.int .i64 m.k,.int .i64 m.v,.slice p.a2 m.r.length p.c2,.slice p.a3 m.s.length p.c3,.string ⟨⟨m.ho⟩⟩,.slice p.a5 m.pr.length p.c5,.slice p.a6 m.ti.length p.c6,.int .i64 m.ag,.int .i64 m.ea,.slice p.a9 m.bi.length p.c9,.bool m.rs,.slice p.a11 m.ce.length p.c11,.slice p.a12 m.pf.length p.c12] dR RG hdR hrowR iM ?_) | fail)
   refine MI.out.mono ?_
   rintro e W6 ⟨rfl,n6⟩
   have s5:=N5.out.size
   have N6:=hide (nxtM N5.out n6)
   have D7:=hide (DR.out W6 (nxtM N3.out N6.out))
   clear MI RG TT HM5 n6 N5
   go_wp2_with fail
   refine D7.out.mono ?_
   rintro e W7 ⟨⟨p7,rfl,HM7,-⟩,-,n7⟩
   have SM:=hide (specMF_any W7 p7 m HM7 IH.out)
   rw [mz] at SM
   clear D7 HM7
   go_wp2_with fail
   refine SM.out.mono ?_
   rintro e W8 ⟨rfl,n8⟩
   have s6:=N6.out.size
   have NZ:=hide (nxtM (nxtM N6.out n7) n8 (by have:=n7.size;omega))
   clear SM N6 n7 n8
   go_wp2_with fail
   go_meet
   exact ⟨rfl,NZ.out⟩
  ·have l0 : le = 0 := by
    rw [HL.out]
    unfold encF
    rw [if_neg mz]
    rfl
   subst l0
   clear HL kb
   go_wp2_with fail
   refine D4.out.mono ?_
   rintro e W4 ⟨⟨p4,rfl,HM4,HZ4⟩,-,n4⟩
   have SM:=hide (specMF_any W4 p4 m HM4 IH.out)
   have MI:=fun W (h:HasM W p m)=>hide (implMF_any W p m h IH.out)
   have SM2:=fun W q (h:HasM W q m)=>hide (specMF_any W q m h IH.out)
   clear HM4 HZ4 D4
   obtain ⟨fm,hfm⟩:∃ x,x=mfF m:=⟨_,rfl⟩
   rw [← hfm] at mz SM
   have HFM:=hide hfm
   clear hfm
   have f0:(fm == 0)=false:=by simp [mz]
   have f1:decide (fm=0)=false:=decide_eq_false mz
   go_wp2_with fail
   refine SM.out.mono ?_
   rintro e W5 ⟨rfl,n5⟩
   have N5:=hide (nxtM n4 n5 (by have:=n4.size;omega))
   have T5:=(T3.out.up n4).up n5
   have HM5:=hide ((HM3.out.up n4).up n5)
   clear SM T3 HM3 n4 n5
   have MJ:=MI W5 HM5.out
   rw [← HFM.out] at MJ
   have RG:=T5.rangeG
   have TT:=hide T5
   clear T5 MI
   go_wp2_with (first | (refine wpList_load_midM (by first | rfl | simp [*,Region.wanted,yielded]) 26 (.tmp 5) rfl b5 0 rfl [.int .i64 m.k,.int .i64 m.v,.slice p.a2 m.r.length p.c2,.slice p.a3 m.s.length p.c3,.string ⟨⟨m.ho⟩⟩,.slice p.a5 m.pr.length p.c5,.slice p.a6 m.ti.length p.c6,.int .i64 m.ag,.int .i64 m.ea,.slice p.a9 m.bi.length p.c9,.bool m.rs,.slice p.a11 m.ce.length p.c11,.slice p.a12 m.pf.length p.c12] dR RG hdR hrowR iM ?_) | fail)
   refine MJ.out.mono ?_
   rintro e W6 ⟨rfl,n6⟩
   have s5:=N5.out.size
   have N6:=hide (nxtM N5.out n6)
   have D7:=hide (DR.out W6 (nxtM N3.out N6.out))
   clear MJ RG TT HM5 n6 N5
   go_wp2_with fail
   refine D7.out.mono ?_
   rintro e W7 ⟨⟨p7,rfl,HM7,-⟩,-,n7⟩
   have SM:=SM2 W7 p7 HM7
   rw [← HFM.out] at SM
   clear D7 HM7 SM2
   go_wp2_with fail
   refine SM.out.mono ?_
   rintro e V ⟨rfl,n8⟩
   have s6:=N6.out.size
   have NZ:=hide (nxtM (nxtM N6.out n7) n8 (by have:=n7.size;omega))
   clear SM N6 n7 n8
   go_wp2_with fail
   go_meet
   exact ⟨rfl,NZ.out⟩
 case rest =>
  clear T3 HM3 D4
  obtain ⟨rfl,nC⟩:=hcut
  have N8:=hide (nxtM N3.out nC)
  have OB8:=hide (OB.out.up nC)
  clear N3 OB nC
  generalize wc=W8 at *
  go_upto_if 41 with fail
  go_cut [] (fun wd=>Below w.heap.size w wd)
  case first =>
   by_cases mz:mfF m=0
   ·have l4 : 4 ≤ le := by rw [HL.out, enc_len mz]; omega
    have l0:(0:Int) < (le:Int):=by omega
    have l1:0 < le:=by omega
    have l0':decide ((0:Int) < (le:Int))=true:=decide_eq_true l0
    go_upto_region 8 with fail
    have s8:=N8.out.size
    have nA:Below W8.heap.size W8 (W8.alloc (.cells #[.int .u8 1,.int .u8 2] 5)):=(Below.refl _ _).alloc (Nat.le_refl _) _
    have RA:RowB (W8.alloc (.cells #[.int .u8 1,.int .u8 2] 5)) W8.heap.size (.slice (some ⟨W8.heap.size,0,none⟩) 2 2) [1,2]:=World.ownsRow_lit W8 #[.int .u8 1,.int .u8 2] 2 (Nat.le_refl _) (by unfold maxLen;omega) (by simp)
    have OA:=OB8.out.up nA
    obtain ⟨vc,W9,h1,R9,n9⟩:=append_any (P:=Tryz.prog) (W8.alloc (.cells #[.int .u8 1,.int .u8 2] 5)) 22 i0 Tryz.underlying22 hi0 hz0 hz1 hz2 W8.heap.size W8.heap.size _ [1,2] RA gb ab cb (encF m) OA zb (by rw [← HL.out];simp;omega) (Nat.le_refl _) nA.size
    obtain ⟨av,cv,gv,rfl,ov,zv,kv,_⟩:=R9.own
    rw [← HL.out] at h1
    obtain ⟨e1,e2,e3⟩:=dm_back mz
    have DI:=implDM_any W9 gv av cv ([1,2] ++ encF m) 2 ov.rd (byt_apd (byt_cons (by decide) (by decide) (byt_cons (by decide) (by decide) byt_nil)) (enc_bytM mz IH.out)) zv kv (by rw [List.length_append,← HL.out];simp;omega)
    have N9:=hide ((nxtM N8.out nA).trans (n9.mono s8))
    obtain ⟨lv,hlv⟩:∃ l,l=([1,2] ++ encF m:List Int).length:=⟨_,rfl⟩
    rw [← hlv] at h1 DI
    have DH:Hid (Calls Tryz.prog 8 #[.slice av lv cv,.int .i64 2] W9 fun e w'=>(∃ q,e = .returned (.agg (rsV 0 q m ((le:Int)+2)))∧HasM w' q m)∧Below W9.heap.size W9 w'):=by
     refine DI.mono ?_
     rintro e w' ⟨⟨q,bs,F,rfl,-,AN⟩,n⟩
     have H:=AN.has
     rw [e2] at H
     rw [e1,e2,e3,← HL.out]
     exact ⟨⟨q,rfl,H⟩,n⟩
    clear DI nA RA OA R9 n9 ov zv kv e1 e2 e3 hlv N8 OB8
    go_wp2_with (at_builtin;refine Lib.wpList_append_run _ rfl _ _ 22 22 rfl _ _ rfl rfl _ _ h1 ?_)
    clear h1
    refine DH.out.mono ?_
    rintro e WA ⟨⟨p7,rfl,HM7⟩,nA⟩
    have s9:=N9.out.size
    have NA:=hide (nxtM N9.out nA)
    clear DH nA N9
    unfold rsV
    obtain ⟨THR,ON,WB,hU,XA,nS⟩:=box15 WA 0 p7 m ((le:Int)+2)
    go_upto_region 9 with (refine wpList_store_mid rfl 31 (.tmp 7) (.tmp 45) rfl WA.heap.size 0 _ rfl rfl THR iMR ON ?_)
    rw [← hU]
    clear THR ON hU
    obtain ⟨b7,hb7⟩:∃ g,WA.heap.size=g:=⟨_,rfl⟩
    have NB:=hide (nxtM NA.out nS (by have:=NA.out.size;omega))
    have XB:=hide XA
    have HX:=hide (HM7.up nS)
    clear XA nS HM7 NA
    rw [hb7] at XB ⊢
    clear hb7
    have DB:Hid (∀ W,Below WB.heap.size WB W→Calls Tryz.prog 4 #[.slice a0 X0.length c0] W fun e w'=>∃ v,e = .returned v∧Below W.heap.size W w'∧(FMq m).p v w'):=fun W hW=>by
     refine (DR.out W (nxtM NB.out hW (by have:=NB.out.size;omega))).mono ?_
     rintro e w' ⟨⟨q,rfl,H,-⟩,-,n⟩
     exact ⟨_,rfl,n,q,rfl,H⟩
    have bL:((le:Int)+2 < 9223372036854775808):=by omega
    refine region_guard (fun i=>[Fact.eq (.pointer (some ⟨b7,0,none⟩)),Fact.eq (.int .i64 0),Fact.eq (.bool false),Fact.eq (.bool false),Fact.eq (.pointer (some ⟨b7,14,none⟩)),Fact.eq (.int .i64 ((le:Int)+2)),Fact.eq (.slice ab le cb),Fact.eq (.int .i64 (le:Int)),Fact.eq (.int .i64 ((le:Int)+2)),Fact.eq (.bool false),Fact.eq (.bool false),Fact.eq (.bool false),Fact.eq (.pointer (some ⟨b7,1,none⟩)),Fact.eq (.agg (mgV p7 m)),Fact.eq (.slice a0 X0.length c0),FMq m,Fact.eq (.bool true),Fact.eq (.bool (!true)),Fact.eq (.bool false)].getD i Fact.no) (by kernel_rfl) (by kernel_rfl) ?_ ?_ ?_
    ·intro i hi
     have hi19:i < 19:=hi
     obtain rfl | rfl | rfl | rfl | rfl | rfl | rfl | rfl | rfl | rfl | rfl | rfl | rfl | rfl | rfl | rfl | rfl | rfl | rfl:i=0∨i=1∨i=2∨i=3∨i=4∨i=5∨i=6∨i=7∨i=8∨i=9∨i=10∨i=11∨i=12∨i=13∨i=14∨i=15∨i=16∨i=17∨i=18:=by omega
     ·refine step_pure rfl fun A ww hb hw hf => ?_
      have e1:A.tmps[7]?.getD undef = .pointer (some ⟨b7,0,none⟩):=gdv (hb.2.2 7 (by kernel_rfl))
      exact ⟨.pointer (some ⟨b7,0,none⟩),by simp [go_sem,e1],rfl⟩
     ·refine step_pure rfl fun A ww hb hw hf => ?_
      have e1:A.tmps[46]?.getD undef = .pointer (some ⟨b7,0,none⟩):=gdv (hf 0 46 (by kernel_rfl))
      have hc:ww.cell? ⟨b7,0,none⟩=some (.int .i64 0):=(XB.out.up hw).cell 0
      exact ⟨.int .i64 0,by simp [go_sem,e1,hc],rfl⟩
     ·refine step_pure rfl fun A ww hb hw hf => ?_
      have e1:A.tmps[47]?.getD undef = .int .i64 0:=gdv (hf 1 47 (by kernel_rfl))
      exact ⟨.bool false,by simp [go_sem,e1],rfl⟩
     ·refine step_pure rfl fun A ww hb hw hf => ?_
      have e1:A.tmps[48]?.getD undef = .bool false:=gdv (hf 2 48 (by kernel_rfl))
      exact ⟨.bool false,by simp [go_sem,e1],rfl⟩
     ·refine step_pure rfl fun A ww hb hw hf => ?_
      have e1:A.tmps[7]?.getD undef = .pointer (some ⟨b7,0,none⟩):=gdv (hb.2.2 7 (by kernel_rfl))
      exact ⟨.pointer (some ⟨b7,14,none⟩),by simp [go_sem,e1],rfl⟩
     ·refine step_pure rfl fun A ww hb hw hf => ?_
      have e1:A.tmps[50]?.getD undef = .pointer (some ⟨b7,14,none⟩):=gdv (hf 4 50 (by kernel_rfl))
      have hc:ww.cell? ⟨b7,14,none⟩=some (.int .i64 ((le:Int)+2)):=(XB.out.up hw).cell 14
      exact ⟨.int .i64 ((le:Int)+2),by simp [go_sem,e1,hc],rfl⟩
     ·refine step_pure rfl fun A ww hb hw hf => ?_
      have e1:A.tmps[6]?.getD undef = .slice ab le cb:=gdv (hb.2.2 6 (by kernel_rfl))
      exact ⟨.slice ab le cb,by simp [go_sem,e1],rfl⟩
     ·refine step_pure rfl fun A ww hb hw hf => ?_
      have e1:A.tmps[52]?.getD undef = .slice ab le cb:=gdv (hf 6 52 (by kernel_rfl))
      exact ⟨.int .i64 (le:Int),by simp [go_sem,e1],rfl⟩
     ·refine step_pure rfl fun A ww hb hw hf => ?_
      have e1:A.tmps[53]?.getD undef = .int .i64 (le:Int):=gdv (hf 7 53 (by kernel_rfl))
      have hq:IntKind.i64.wrap ((le:Int)+2)=(le:Int)+2:=by rw [IntKind.wrap_i64];omega
      exact ⟨.int .i64 ((le:Int)+2),by simp [go_sem,e1,hq],rfl⟩
     ·refine step_pure rfl fun A ww hb hw hf => ?_
      have e1:A.tmps[51]?.getD undef = .int .i64 ((le:Int)+2):=gdv (hf 5 51 (by kernel_rfl))
      have e2:A.tmps[54]?.getD undef = .int .i64 ((le:Int)+2):=gdv (hf 8 54 (by kernel_rfl))
      exact ⟨.bool false,by simp [go_sem,e1,e2],rfl⟩
     ·refine step_pure rfl fun A ww hb hw hf => ?_
      have e1:A.tmps[49]?.getD undef = .bool false:=gdv (hf 3 49 (by kernel_rfl))
      have e2:A.tmps[55]?.getD undef = .bool false:=gdv (hf 9 55 (by kernel_rfl))
      exact ⟨.bool false,by simp [go_sem,e1,e2],rfl⟩
     ·refine step_pure rfl fun A ww hb hw hf => ?_
      have e1:A.tmps[56]?.getD undef = .bool false:=gdv (hf 10 56 (by kernel_rfl))
      exact ⟨.bool false,by simp [go_sem,e1],rfl⟩
     ·refine step_pure rfl fun A ww hb hw hf => ?_
      have e1:A.tmps[7]?.getD undef = .pointer (some ⟨b7,0,none⟩):=gdv (hb.2.2 7 (by kernel_rfl))
      exact ⟨.pointer (some ⟨b7,1,none⟩),by simp [go_sem,e1],rfl⟩
     ·exact step_ldM rfl 58 12 rfl (by kernel_rfl) rfl (rs_part XB.out) rfl
     ·refine step_pure rfl fun A ww hb hw hf => ?_
      have e1:A.tmps[0]?.getD undef = .slice a0 X0.length c0:=gdv (hb.2.2 0 (by kernel_rfl))
      exact ⟨.slice a0 X0.length c0,by simp [go_sem,e1],rfl⟩
     ·refine step_call1 rfl 4 60 14 rfl (by kernel_rfl) (by kernel_rfl) fun W x hW hx => ?_
      have hx:x = .slice a0 X0.length c0:=hx
      subst hx
      exact DB.out W hW
     ·refine step_call2 rfl 9 59 61 13 15 rfl (by kernel_rfl) (by kernel_rfl) (by kernel_rfl) fun W x y hW hx hy => ?_
      have hx:x = .agg (mgV p7 m):=hx
      subst hx
      obtain ⟨q,rfl,hq⟩:=hy
      refine (lwSameMsg_same W p7 q m (HX.out.up hW) hq IH.out).mono ?_
      rintro e w' ⟨rfl,n⟩
      exact ⟨_,rfl,n,rfl⟩
     ·exact step_notq rfl 62 16 rfl (by kernel_rfl) rfl rfl
     ·refine step_pure rfl fun A ww hb hw hf => ?_
      have e1:A.tmps[57]?.getD undef = .bool false:=gdv (hf 11 57 (by kernel_rfl))
      have e2:A.tmps[63]?.getD undef = .bool (!true):=gdv (hf 17 63 (by kernel_rfl))
      exact ⟨.bool false,by simp [go_sem,e1,e2],rfl⟩
    ·intro i o ho A W' hf
     have hi19:i < 19:=(Array.getElem?_eq_some_iff.1 ho).1
     obtain rfl | rfl | rfl | rfl | rfl | rfl | rfl | rfl | rfl | rfl | rfl | rfl | rfl | rfl | rfl | rfl | rfl | rfl | rfl:i=0∨i=1∨i=2∨i=3∨i=4∨i=5∨i=6∨i=7∨i=8∨i=9∨i=10∨i=11∨i=12∨i=13∨i=14∨i=15∨i=16∨i=17∨i=18:=by omega
     ·cases ho;exact wanted_none rfl
     ·cases ho;exact wanted_none rfl
     ·cases ho;exact wanted_none rfl
     ·cases ho;exact wanted_none rfl
     ·cases ho;exact wanted_some rfl (by kernel_rfl) (hf 3 49 (by kernel_rfl))
     ·cases ho;exact wanted_some rfl (by kernel_rfl) (hf 3 49 (by kernel_rfl))
     ·cases ho;exact wanted_some rfl (by kernel_rfl) (hf 3 49 (by kernel_rfl))
     ·cases ho;exact wanted_some rfl (by kernel_rfl) (hf 3 49 (by kernel_rfl))
     ·cases ho;exact wanted_some rfl (by kernel_rfl) (hf 3 49 (by kernel_rfl))
     ·cases ho;exact wanted_some rfl (by kernel_rfl) (hf 3 49 (by kernel_rfl))
     ·cases ho;exact wanted_none rfl
     ·cases ho;exact wanted_none rfl
     ·cases ho;exact wanted_some rfl (by kernel_rfl) (hf 11 57 (by kernel_rfl))
     ·cases ho;exact wanted_some rfl (by kernel_rfl) (hf 11 57 (by kernel_rfl))
     ·cases ho;exact wanted_some rfl (by kernel_rfl) (hf 11 57 (by kernel_rfl))
     ·cases ho;exact wanted_some rfl (by kernel_rfl) (hf 11 57 (by kernel_rfl))
     ·cases ho;exact wanted_some rfl (by kernel_rfl) (hf 11 57 (by kernel_rfl))
     ·cases ho;exact wanted_some rfl (by kernel_rfl) (hf 11 57 (by kernel_rfl))
     ·cases ho;exact wanted_none rfl
    intro A V hb' hw hF
    have e2:=hF 18 64 (by kernel_rfl)
    obtain ⟨vs,hvs⟩:∃ vs:Nat→Value,∀ d,A.tmps.getD d undef=vs d:=⟨_,fun _=>rfl⟩
    rw [hvs] at e2
    rw [puts_guard (md := .any) (by kernel_rfl) rfl hb' vs hvs]
    have e3:vs 64 = .bool false:=e2
    have N:=hide (nxtM NB.out hw (by have:=NB.out.size;omega))
    clear hb' hF hvs e2 hw NB XB HX DB DR IH HZ mz
    simp only [puts,e3,Act.put,List.setIfInBounds_toArray,List.set_cons_succ,List.set_cons_zero]
    clear e3
    go_wp2_with fail
    go_meet
    exact N.out
   ·have l0 : le = 0 := by
     rw [HL.out]
     unfold encF
     rw [if_neg mz]
     rfl
    subst l0
    clear HL kb
    go_wp2_with fail
    go_meet
    exact N8.out
  case rest =>
   clear N8 OB8
   have N:=hide hcut
   clear hcut
   generalize wc=V at *
   have s0:=N.out.size
   have DD:=hide (drawDec_M V g1 a1 c1 X1 (HO.out.up N.out) bX1 q1)
   go_wp2_with fail
   refine DD.out.mono ?_
   rintro e U1 ⟨vy,ys,at_,rfl,RY,yb,yl,n1⟩
   obtain ⟨ya,yc,yg,rfl,oY,zY,kY,_⟩:=RY.own
   have N1:=hide (nxtM N.out n1)
   have OY:=hide oY.rd
   clear DD RY oY n1 N
   have s1:=N1.out.size
   have CP:=hide (lwCopyO_any U1 yg ya yc ys OY.out zY (by omega))
   go_upto_region 12 with fail
   go_wp2_with fail
   refine CP.out.mono ?_
   rintro e U2 ⟨vz,rfl,RZ,n2⟩
   obtain ⟨za,zc,zg,rfl,oZ,zZ,kZ,_⟩:=(show RowB U2 U1.heap.size vz ys from RZ).own
   have N2:=hide (nxtM N1.out n2)
   have OY2:=hide (OY.out.up n2)
   have DI:=hide (implDM_any U2 zg za zc ys at_ oZ.rd yb zZ kZ (by omega))
   clear CP RZ oZ zZ kZ n2 N1 OY
   have s2:=N2.out.size
   go_wp2_with fail
   refine DI.out.mono ?_
   rintro e U3 ⟨⟨p10,bs10,F10,rfl,-,AN⟩,n3⟩
   have HM10:=AN.has
   have HZ10:=AN.z
   have N3:=hide (nxtM N2.out n3)
   have OY3:=hide (OY2.out.up n3)
   clear DI AN n3 N2 OY2
   have EO:Hid (dmC ys at_=0→0≤at_∧at_≤dmE ys at_∧dmE ys at_≤(ys.length:Int)∧mfF (dmR ys at_)=0∧encF (dmR ys at_)=(ys.drop at_.toNat).take (dmE ys at_ - at_).toNat):=fun h=>enc_of yb h
   have SD:Hid (∀ W,Below U3.heap.size U3 W→Calls Tryz.prog 12 #[.slice ya ys.length yc,.int .i64 at_] W fun e w'=>∃ v,e = .returned v∧Below W.heap.size W w'∧(FRs (dmC ys at_)).p v w'):=fun W hW=>by
    refine (specDM_any W yg ya yc ys at_ (OY3.out.up hW) yb zY kY (by omega)).mono ?_
    rintro e w' ⟨⟨p,rfl,_⟩,n⟩
    exact ⟨_,rfl,n,_,_,_,rfl⟩
   have IS10:=hide (isM_dm yb at_)
   obtain ⟨cd,hcd⟩:∃ x,x=dmC ys at_:=⟨_,rfl⟩
   obtain ⟨mr,hmr⟩:∃ x,x=dmR ys at_:=⟨_,rfl⟩
   obtain ⟨nx,hnx⟩:∃ x,x=dmE ys at_:=⟨_,rfl⟩
   rw [← hmr] at HM10 HZ10 IS10
   rw [← hcd,← hmr,← hnx] at EO
   rw [← hcd] at SD
   rw [← hcd,← hmr,← hnx]
   unfold rsV
   clear hcd hmr hnx
   obtain ⟨THR,ON,U4,hU,XA,nS⟩:=box15 U3 cd p10 mr nx
   go_upto_region 13 with (refine wpList_store_mid rfl 31 (.tmp 10) (.tmp 73) rfl U3.heap.size 0 _ rfl rfl THR iMR ON ?_)
   rw [← hU]
   clear THR ON hU
   obtain ⟨b10,hb10⟩:∃ g,U3.heap.size=g:=⟨_,rfl⟩
   have N4:=hide (nxtM N3.out nS (by have:=N3.out.size;omega))
   have NB:=hide nS
   have XB:=hide XA
   have OY4:=hide (OY3.out.up nS)
   have HX4:=hide (HM10.up nS)
   have SD4:Hid (∀ W,Below U4.heap.size U4 W→Calls Tryz.prog 12 #[.slice ya ys.length yc,.int .i64 at_] W fun e w'=>∃ v,e = .returned v∧Below W.heap.size W w'∧(FRs cd).p v w'):=fun W hW=>SD.out W (NB.out.trans (hW.mono NB.out.size))
   clear XA nS SD OY3 HM10 N3 NB
   rw [hb10] at XB ⊢
   clear hb10
   refine region_end 7 (fun i=>[Fact.eq (.pointer (some ⟨b10,0,none⟩)),Fact.eq (.int .i64 cd),Fact.eq (.slice ya ys.length yc),Fact.eq (.int .i64 at_),FRs cd,Fact.eq (.int .i64 cd),Fact.eq (.bool false)].getD i Fact.no) (by kernel_rfl) (by kernel_rfl) rfl ?_ ?_
   ·intro i hi
    obtain rfl | rfl | rfl | rfl | rfl | rfl | rfl:i=0∨i=1∨i=2∨i=3∨i=4∨i=5∨i=6:=by omega
    ·refine step_pure rfl fun A ww hb hw hf => ?_
     have e1:A.tmps[10]?.getD undef = .pointer (some ⟨b10,0,none⟩):=gdv (hb.2.2 10 (by kernel_rfl))
     exact ⟨.pointer (some ⟨b10,0,none⟩),by simp [go_sem,e1],rfl⟩
    ·refine step_pure rfl fun A ww hb hw hf => ?_
     have e1:A.tmps[74]?.getD undef = .pointer (some ⟨b10,0,none⟩):=gdv (hf 0 74 (by kernel_rfl))
     have hc:ww.cell? ⟨b10,0,none⟩=some (.int .i64 cd):=(XB.out.up hw).cell 0
     exact ⟨.int .i64 cd,by simp [go_sem,e1,hc],rfl⟩
    ·refine step_pure rfl fun A ww hb hw hf => ?_
     have e1:A.tmps[8]?.getD undef = .slice ya ys.length yc:=gdv (hb.2.2 8 (by kernel_rfl))
     exact ⟨.slice ya ys.length yc,by simp [go_sem,e1],rfl⟩
    ·refine step_pure rfl fun A ww hb hw hf => ?_
     have e1:A.tmps[9]?.getD undef = .int .i64 at_:=gdv (hb.2.2 9 (by kernel_rfl))
     exact ⟨.int .i64 at_,by simp [go_sem,e1],rfl⟩
    ·refine step_call2 rfl 12 76 77 2 3 rfl (by kernel_rfl) (by kernel_rfl) (by kernel_rfl) fun W x y hW hx hy => ?_
     have hx:x = .slice ya ys.length yc:=hx
     have hy:y = .int .i64 at_:=hy
     subst hx hy
     exact SD4.out W hW
    ·exact step_code rfl 78 4 rfl (by kernel_rfl) rfl rfl
    ·refine step_pure rfl fun A ww hb hw hf => ?_
     have e1:A.tmps[75]?.getD undef = .int .i64 cd:=gdv (hf 1 75 (by kernel_rfl))
     have e2:A.tmps[79]?.getD undef = .int .i64 cd:=gdv (hf 5 79 (by kernel_rfl))
     exact ⟨.bool false,by simp [go_sem,e1,e2],rfl⟩
   intro A W hb' hw hF
   have e2:=hF 6 80 (by kernel_rfl)
   obtain ⟨vs,hvs⟩:∃ vs:Nat→Value,∀ d,A.tmps.getD d undef=vs d:=⟨_,fun _=>rfl⟩
   rw [hvs] at e2
   rw [puts_of (md := .any) (k:=7) (by kernel_rfl) rfl hb' vs hvs]
   have e3:vs 80 = .bool false:=e2
   have N5:=hide (nxtM N4.out hw (by have:=N4.out.size;omega))
   have XB5:=hide (XB.out.up hw)
   have OY5:=hide (OY4.out.up hw)
   have HX5:=hide (HX4.out.up hw)
   clear hb' hF hvs e2 hw SD4 N4 XB OY4 HX4
   simp only [puts,e3,Act.put,List.setIfInBounds_toArray,List.set_cons_succ,List.set_cons_zero]
   clear e3
   go_upto_region 15 with fail
   by_cases c0:cd=0
   case neg =>
    have k0:(cd != 0)=true:=by simp [c0]
    have k1:decide (cd=0)=false:=decide_eq_false c0
    have hc:W.cell? ⟨b10,0,none⟩=some (.int .i64 cd):=XB5.out.cell 0
    have hc2:∀ n,(W.drewN n).cell? ⟨b10,0,none⟩=some (.int .i64 cd):=fun n=>XB5.out.cell 0
    clear HX5 OY5 XB5 EO HZ10 IS10
    go_quiet (fail)
    have NQ:=hide (nxtM N5.out (below_drewN (Below.refl W.heap.size W) nq) (by have:=N5.out.size;omega))
    clear N5
    go_wp2
    go_ret
    exact ⟨rfl,NQ.out⟩
   case pos =>
    subst c0
    obtain ⟨at0,at1,at2,at3,at4⟩:=EO.out rfl
    obtain ⟨i,hi⟩:=Int.eq_ofNat_of_zero_le at0
    obtain ⟨j,hj⟩:=Int.eq_ofNat_of_zero_le (show 0≤nx by omega)
    subst hi hj
    have ij:i≤j:=by omega
    have jl:j≤ys.length:=by omega
    have ee:Hid (encF mr=(ys.drop i).take (j - i)):=by
     show _=_
     rw [at4]
     congr 1
     omega
    have EL:((ys.drop i).take (j - i)).length=j - i:=by rw [List.length_take,List.length_drop];omega
    have EN:Hid (∀ W',Below W.heap.size W W'→Calls Tryz.prog 5 #[.agg (mgV p10 mr)] W' fun e w'=>∃ v,e = .returned v∧Below W'.heap.size W' w'∧(FRd ((ys.drop i).take (j - i))).p v w'):=fun W' hW=>by
     refine (implEnc_any W' p10 mr (HX5.out.up hW) IS10.out HZ10).mono ?_
     rintro e w' ⟨⟨x,rfl,R⟩,n⟩
     rw [ee.out] at R
     obtain ⟨xa,xc,xg,rfl,ox,_⟩:=R.own
     exact ⟨_,rfl,n,xa,xc,xg,rfl,ox.rd⟩
    have RS:=OY5.out.sl kY i (j - i)
    clear EO at4 at3
    refine region_guard (fun i'=>[Fact.eq (.pointer (some ⟨b10,0,none⟩)),Fact.eq (.int .i64 0),Fact.eq (.bool false),Fact.eq (.bool false),Fact.eq (.pointer (some ⟨b10,14,none⟩)),Fact.eq (.int .i64 (j:Int)),Fact.eq (.slice ya ys.length yc),Fact.eq (.int .i64 (ys.length:Int)),Fact.eq (.bool true),Fact.eq (.bool true),Fact.eq (.pointer (some ⟨b10,1,none⟩)),Fact.eq (.agg (mgV p10 mr)),FRd ((ys.drop i).take (j - i)),Fact.eq (.slice ya ys.length yc),Fact.eq (.int .i64 (i:Int)),Fact.eq (.pointer (some ⟨b10,14,none⟩)),Fact.eq (.int .i64 (j:Int)),FRd ((ys.drop i).take (j - i)),Fact.eq (.bool true),Fact.eq (.bool true),Fact.eq (.bool true),Fact.eq (.bool true)].getD i' Fact.no) (by kernel_rfl) (by kernel_rfl) ?_ ?_ ?_
    ·intro i' hi
     have hi22:i' < 22:=hi
     obtain rfl | rfl | rfl | rfl | rfl | rfl | rfl | rfl | rfl | rfl | rfl | rfl | rfl | rfl | rfl | rfl | rfl | rfl | rfl | rfl | rfl | rfl:i'=0∨i'=1∨i'=2∨i'=3∨i'=4∨i'=5∨i'=6∨i'=7∨i'=8∨i'=9∨i'=10∨i'=11∨i'=12∨i'=13∨i'=14∨i'=15∨i'=16∨i'=17∨i'=18∨i'=19∨i'=20∨i'=21:=by omega
     ·refine step_pure rfl fun A ww hb hw hf => ?_
      have e1:A.tmps[10]?.getD undef = .pointer (some ⟨b10,0,none⟩):=gdv (hb.2.2 10 (by kernel_rfl))
      exact ⟨.pointer (some ⟨b10,0,none⟩),by simp [go_sem,e1],rfl⟩
     ·refine step_pure rfl fun A ww hb hw hf => ?_
      have e1:A.tmps[81]?.getD undef = .pointer (some ⟨b10,0,none⟩):=gdv (hf 0 81 (by kernel_rfl))
      have hc:ww.cell? ⟨b10,0,none⟩=some (.int .i64 0):=(XB5.out.up hw).cell 0
      exact ⟨.int .i64 0,by simp [go_sem,e1,hc],rfl⟩
     ·refine step_pure rfl fun A ww hb hw hf => ?_
      have e1:A.tmps[82]?.getD undef = .int .i64 0:=gdv (hf 1 82 (by kernel_rfl))
      exact ⟨.bool false,by simp [go_sem,e1],rfl⟩
     ·refine step_pure rfl fun A ww hb hw hf => ?_
      have e1:A.tmps[83]?.getD undef = .bool false:=gdv (hf 2 83 (by kernel_rfl))
      exact ⟨.bool false,by simp [go_sem,e1],rfl⟩
     ·refine step_pure rfl fun A ww hb hw hf => ?_
      have e1:A.tmps[10]?.getD undef = .pointer (some ⟨b10,0,none⟩):=gdv (hb.2.2 10 (by kernel_rfl))
      exact ⟨.pointer (some ⟨b10,14,none⟩),by simp [go_sem,e1],rfl⟩
     ·refine step_pure rfl fun A ww hb hw hf => ?_
      have e1:A.tmps[85]?.getD undef = .pointer (some ⟨b10,14,none⟩):=gdv (hf 4 85 (by kernel_rfl))
      have hc:ww.cell? ⟨b10,14,none⟩=some (.int .i64 (j:Int)):=(XB5.out.up hw).cell 14
      exact ⟨.int .i64 (j:Int),by simp [go_sem,e1,hc],rfl⟩
     ·refine step_pure rfl fun A ww hb hw hf => ?_
      have e1:A.tmps[8]?.getD undef = .slice ya ys.length yc:=gdv (hb.2.2 8 (by kernel_rfl))
      exact ⟨.slice ya ys.length yc,by simp [go_sem,e1],rfl⟩
     ·refine step_pure rfl fun A ww hb hw hf => ?_
      have e1:A.tmps[87]?.getD undef = .slice ya ys.length yc:=gdv (hf 6 87 (by kernel_rfl))
      exact ⟨.int .i64 (ys.length:Int),by simp [go_sem,e1],rfl⟩
     ·refine step_pure rfl fun A ww hb hw hf => ?_
      have e1:A.tmps[86]?.getD undef = .int .i64 (j:Int):=gdv (hf 5 86 (by kernel_rfl))
      have e2:A.tmps[88]?.getD undef = .int .i64 (ys.length:Int):=gdv (hf 7 88 (by kernel_rfl))
      have jl':(j:Int)≤(ys.length:Int):=by omega
      exact ⟨.bool true,by simp [go_sem,e1,e2,jl'],rfl⟩
     ·refine step_pure rfl fun A ww hb hw hf => ?_
      have e1:A.tmps[89]?.getD undef = .bool true:=gdv (hf 8 89 (by kernel_rfl))
      exact ⟨.bool true,by simp [go_sem,e1],rfl⟩
     ·refine step_pure rfl fun A ww hb hw hf => ?_
      have e1:A.tmps[10]?.getD undef = .pointer (some ⟨b10,0,none⟩):=gdv (hb.2.2 10 (by kernel_rfl))
      exact ⟨.pointer (some ⟨b10,1,none⟩),by simp [go_sem,e1],rfl⟩
     ·exact step_ldM rfl 91 10 rfl (by kernel_rfl) rfl (rs_part XB5.out) rfl
     ·refine step_call1 rfl 5 92 11 rfl (by kernel_rfl) (by kernel_rfl) fun W' x hW hx => ?_
      have hx:x = .agg (mgV p10 mr):=hx
      subst hx
      exact EN.out W' hW
     ·refine step_pure rfl fun A ww hb hw hf => ?_
      have e1:A.tmps[8]?.getD undef = .slice ya ys.length yc:=gdv (hb.2.2 8 (by kernel_rfl))
      exact ⟨.slice ya ys.length yc,by simp [go_sem,e1],rfl⟩
     ·refine step_pure rfl fun A ww hb hw hf => ?_
      have e1:A.tmps[9]?.getD undef = .int .i64 (i:Int):=gdv (hb.2.2 9 (by kernel_rfl))
      exact ⟨.int .i64 (i:Int),by simp [go_sem,e1],rfl⟩
     ·refine step_pure rfl fun A ww hb hw hf => ?_
      have e1:A.tmps[10]?.getD undef = .pointer (some ⟨b10,0,none⟩):=gdv (hb.2.2 10 (by kernel_rfl))
      exact ⟨.pointer (some ⟨b10,14,none⟩),by simp [go_sem,e1],rfl⟩
     ·refine step_pure rfl fun A ww hb hw hf => ?_
      have e1:A.tmps[96]?.getD undef = .pointer (some ⟨b10,14,none⟩):=gdv (hf 15 96 (by kernel_rfl))
      have hc:ww.cell? ⟨b10,14,none⟩=some (.int .i64 (j:Int)):=(XB5.out.up hw).cell 14
      exact ⟨.int .i64 (j:Int),by simp [go_sem,e1,hc],rfl⟩
     ·exact step_cut rfl 94 95 97 13 14 16 rfl (by kernel_rfl) (by kernel_rfl) (by kernel_rfl) rfl rfl rfl ij (by omega) fun W' hW=>⟨slA ya i yc,yc - i,yg,by rw [EL],RS.up hW⟩
     ·refine step_call2 rfl 13 93 98 12 17 rfl (by kernel_rfl) (by kernel_rfl) (by kernel_rfl) fun W' x y hW hx hy => ?_
      obtain ⟨xa,xc,xg,rfl,xr⟩:=hx
      obtain ⟨za,zc,zg,rfl,zr⟩:=hy
      refine (lwSame_same W' xg zg xa za xc zc _ xr zr).mono ?_
      rintro e w' ⟨rfl,rfl⟩
      exact ⟨_,rfl,Below.refl _ _,rfl⟩
     ·refine step_pure rfl fun A ww hb hw hf => ?_
      have e1:A.tmps[90]?.getD undef = .bool true:=gdv (hf 9 90 (by kernel_rfl))
      have e2:A.tmps[99]?.getD undef = .bool true:=gdv (hf 18 99 (by kernel_rfl))
      exact ⟨.bool true,by simp [go_sem,e1,e2],rfl⟩
     ·refine step_pure rfl fun A ww hb hw hf => ?_
      have e1:A.tmps[84]?.getD undef = .bool false:=gdv (hf 3 84 (by kernel_rfl))
      have e2:A.tmps[100]?.getD undef = .bool true:=gdv (hf 19 100 (by kernel_rfl))
      exact ⟨.bool true,by simp [go_sem,e1,e2],rfl⟩
     ·refine step_pure rfl fun A ww hb hw hf => ?_
      have e1:A.tmps[101]?.getD undef = .bool true:=gdv (hf 20 101 (by kernel_rfl))
      exact ⟨.bool true,by simp [go_sem,e1],rfl⟩
    ·intro i' o ho A W' hf
     have hi22:i' < 22:=(Array.getElem?_eq_some_iff.1 ho).1
     obtain rfl | rfl | rfl | rfl | rfl | rfl | rfl | rfl | rfl | rfl | rfl | rfl | rfl | rfl | rfl | rfl | rfl | rfl | rfl | rfl | rfl | rfl:i'=0∨i'=1∨i'=2∨i'=3∨i'=4∨i'=5∨i'=6∨i'=7∨i'=8∨i'=9∨i'=10∨i'=11∨i'=12∨i'=13∨i'=14∨i'=15∨i'=16∨i'=17∨i'=18∨i'=19∨i'=20∨i'=21:=by omega
     ·cases ho;exact wanted_none rfl
     ·cases ho;exact wanted_none rfl
     ·cases ho;exact wanted_none rfl
     ·cases ho;exact wanted_none rfl
     ·cases ho;exact wanted_some rfl (by kernel_rfl) (hf 3 84 (by kernel_rfl))
     ·cases ho;exact wanted_some rfl (by kernel_rfl) (hf 3 84 (by kernel_rfl))
     ·cases ho;exact wanted_some rfl (by kernel_rfl) (hf 3 84 (by kernel_rfl))
     ·cases ho;exact wanted_some rfl (by kernel_rfl) (hf 3 84 (by kernel_rfl))
     ·cases ho;exact wanted_some rfl (by kernel_rfl) (hf 3 84 (by kernel_rfl))
     ·cases ho;exact wanted_some rfl (by kernel_rfl) (hf 3 84 (by kernel_rfl))
     ·cases ho;exact wanted_some rfl (by kernel_rfl) (hf 9 90 (by kernel_rfl))
     ·cases ho;exact wanted_some rfl (by kernel_rfl) (hf 9 90 (by kernel_rfl))
     ·cases ho;exact wanted_some rfl (by kernel_rfl) (hf 9 90 (by kernel_rfl))
     ·cases ho;exact wanted_some rfl (by kernel_rfl) (hf 9 90 (by kernel_rfl))
     ·cases ho;exact wanted_some rfl (by kernel_rfl) (hf 9 90 (by kernel_rfl))
     ·cases ho;exact wanted_some rfl (by kernel_rfl) (hf 9 90 (by kernel_rfl))
     ·cases ho;exact wanted_some rfl (by kernel_rfl) (hf 9 90 (by kernel_rfl))
     ·cases ho;exact wanted_some rfl (by kernel_rfl) (hf 9 90 (by kernel_rfl))
     ·cases ho;exact wanted_some rfl (by kernel_rfl) (hf 9 90 (by kernel_rfl))
     ·cases ho;exact wanted_some rfl (by kernel_rfl) (hf 3 84 (by kernel_rfl))
     ·cases ho;exact wanted_none rfl
     ·cases ho;exact wanted_none rfl
    ·intro A W' hb' hw hF
     have e2:=hF 21 4 (by kernel_rfl)
     obtain ⟨vs,hvs⟩:∃ vs:Nat→Value,∀ d,A.tmps.getD d undef=vs d:=⟨_,fun _=>rfl⟩
     rw [hvs] at e2
     rw [puts_guard (md := .any) (by kernel_rfl) rfl hb' vs hvs]
     have e3:vs 4 = .bool true:=e2
     have N6:=hide (nxtM N5.out hw (by have:=N5.out.size;omega))
     clear hb' hF hvs e2 hw N5 XB5 OY5 HX5 EN RS
     simp only [puts,e3,Act.put,List.setIfInBounds_toArray,List.set_cons_succ,List.set_cons_zero]
     clear e3
     go_wp2
     go_ret
     exact ⟨rfl,N6.out⟩
end Go.Proofs.YtmmbkkfjiaoeiaaGreat
