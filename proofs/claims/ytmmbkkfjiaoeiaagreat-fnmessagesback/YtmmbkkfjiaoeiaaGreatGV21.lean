import Derived.Test.YtmmbkkfjiaoeiaaGreatGV20
import Derived.Test.YtmmbkkfjiaoeiaaGreatGV19
import Derived.Test.YtmmbkkfjiaoeiaaGreatGV5
import Derived.Test.YtmmbkkfjiaoeiaaGreatGV4
import Derived.Test.YtmmbkkfjiaoeiaaGreatGV7
import Derived.Test.YtmmbkkfjiaoeiaaGreatGVxMbM
import Derived.Test.YtmmbkkfjiaoeiaaGreatGV13
import Derived.Test.YtmmbkkfjiaoeiaaGreatGV16
import Derived.Test.YtmmbkkfjiaoeiaaGreatGV17
import Derived.Deep.DeepCutAuto
namespace Go.Proofs.YtmmbkkfjiaoeiaaGreat
open Go Go.RowKit
set_option maxRecDepth 100000 in
set_option maxHeartbeats 4000000 in
theorem decode_body (w:World) (mq:Nat) (g:Nat) (a:Option Addr) (c:Nat) (xs:List Int) (i:Nat) (hi:i≤xs.length) (hm:w.heap[mq]?=some (.map regE 9)) (hr:Rd w g a .u8 xs) (hb:Byt xs) (hz:a=none→c=0) (hc:xs.length≤c) (hx:xs.length≤1048576) (hp:dmP (xs.drop i)=0) (k:Int) (ek:(xs.drop i).getD 0 0=k) (fm:Nat) (T S:TypeId) (init:List Value) (cells:MQ→Msg→List Value) (nrm:MQ→MQ)
  (hV:regV k = .func (Fn.func fm) #[] #[]) (cm:∀ vs W,(callFunc fm vs).run Tryz.prog W = .ok (.enter fm vs) W)
  (NW:∀ W,Calls Tryz.prog fm #[] W fun e W'=>e = .returned (.iface T (.pointer (some ⟨W.heap.size,0,none⟩)))∧RwC W' W.heap.size init S∧Below W.heap.size W W')
  (RW:∀ (w:World) (q g:Nat) (a:Option Addr) (c:Nat) (xs:List Int),RwC w q init S→Rd w g a .u8 xs→Byt xs→(0 < xs.length→g≠q)→(a=none→c=0)→xs.length≤c→xs.length≤1048576→Calls Tryz.prog 49 #[.iface T (.pointer (some ⟨q,0,none⟩)),.slice a xs.length c] w fun e w'=>e = .returned (.bool (decide (mfF (rdM k xs)=0∧bodF (rdM k xs)=xs)))∧(decide (mfF (rdM k xs)=0∧bodF (rdM k xs)=xs)=true→RK cells nrm S w.heap.size q (rdM k xs) w')∧Tch [q] w w')
  (PL:∀ (W:World) (q:Nat) (p:MQ) (xs:List Int),nrm p=p→RwC W q (cells p (rdM k xs)) S→Calls Tryz.prog 36 #[.iface T (.pointer (some ⟨q,0,none⟩))] W fun e W'=>e = .returned (.agg (mgV p (rdM k xs)))∧Below W.heap.size W W') :
  Calls Tryz.prog 24 #[.map (some mq),.slice a xs.length c,.int .i64 (i:Int)] w fun e w'=>DcP w xs (i:Int) (e) (w'):=by
 have HNW:=hide NW
 have HRW:=hide RW
 have HPL:=hide PL
 clear NW RW PL
 have Z:RwC (w.alloc (.cells #[.int .i64 0,.int .i64 0,.int .i64 0,.slice none 0 0,.slice none 0 0,.string ⟨#[]⟩,.slice none 0 0,.slice none 0 0,.int .i64 0,.int .i64 0,.slice none 0 0,.bool false,.slice none 0 0,.slice none 0 0,.int .i64 0] 31)) w.heap.size [.int .i64 0,.int .i64 0,.int .i64 0,.slice none 0 0,.slice none 0 0,.string ⟨#[]⟩,.slice none 0 0,.slice none 0 0,.int .i64 0,.int .i64 0,.slice none 0 0,.bool false,.slice none 0 0,.slice none 0 0,.int .i64 0] 31:=RwC.new w _ _
 have N:Below w.heap.size w (w.alloc (.cells #[.int .i64 0,.int .i64 0,.int .i64 0,.slice none 0 0,.slice none 0 0,.string ⟨#[]⟩,.slice none 0 0,.slice none 0 0,.int .i64 0,.int .i64 0,.slice none 0 0,.bool false,.slice none 0 0,.slice none 0 0,.int .i64 0] 31)):=(Below.refl _ _).alloc (Nat.le_refl _) _
 obtain ⟨d15,hd15,hrow15⟩:=rowMR
 go_enter Tryz.func24,Tryz.ntmps24
 go_upto_region 1 with fail
 generalize w.alloc (.cells #[.int .i64 0,.int .i64 0,.int .i64 0,.slice none 0 0,.slice none 0 0,.string ⟨#[]⟩,.slice none 0 0,.slice none 0 0,.int .i64 0,.int .i64 0,.slice none 0 0,.bool false,.slice none 0 0,.slice none 0 0,.int .i64 0] 31)=W at *
 have ml:mq < w.heap.size:=(Array.getElem?_eq_some_iff.1 hm).1
 have t0:decide ((i:Int) < 0)=false:=decide_eq_false (by omega)
 have t1:decide ((xs.length:Int) < (i:Int))=false:=decide_eq_false (by omega)
 go_upto_region 3 with fail
 obtain ⟨ys,ey⟩:∃ ys,xs.drop i=ys:=⟨_,rfl⟩
 have ly:ys.length=xs.length - i:=by rw [← ey,List.length_drop]
 have SLC:=sl_low W a xs.length c i ys.length hi hc ly
 have RY:Rd W g (slA a i c) .u8 ys:=by rw [← ey];exact (hr.up N).slD hc i
 have BY:Byt ys:=by rw [← ey];exact byt_drop hb i
 have LY:ys.length≤1048576:=by omega
 have EY:Hid (xs.drop ((i:Int)).toNat=ys):=ey
 have LYH:=hide ly
 have M1:W.heap[mq]?=some (.map regE 9):=(N.block mq ml).trans hm
 have BS:=hide (bodySize_any W mq g (slA a i c) (c - i) ys M1 RY BY LY)
 clear ly ey t0 t1
 generalize slA a i c=aR at *
 generalize c - i=cR at *
 go_wp2_with (refine wpList_slT _ rfl 22 (.tmp 23) (some (.tmp 24)) none rfl (.slice a xs.length c) (some (.int .i64 (i:Int))) none rfl rfl rfl _ SLC ?_)
 refine BS.out.mono ?_
 rintro e W1 ⟨rfl,n1⟩
 have Z1:=Z.up n1
 have N1:=nxt N n1
 clear BS SLC Z N RY n1
 have Z:=Z1
 have N:=N1
 clear Z1 N1
 have eY:xs.drop i=ys:=EY.out
 rw [eY] at hp ek
 rw [if_pos hp,hp]
 have HP:=hide hp
 obtain ⟨l1,hk0,l4',n8',lf'⟩:=dmP_zero hp
 have n0:=beN_rng BY 1 3
 obtain ⟨n,hn⟩:=Int.eq_ofNat_of_zero_le n0.1
 have EN:=hide hn
 rw [hn] at n8' lf' ⊢
 have n8:n≤8192:=by omega
 have lf:4+n≤ys.length:=by omega
 have lx:=LYH.out
 have hin:i+4+n≤xs.length:=by omega
 have hii:i < xs.length:=by omega
 have eN:dmN ys=n:=by show (beN ys 1 3).toNat=n;rw [hn];rfl
 have s1:IntKind.i64.wrap ((i:Int)+4)=(i:Int)+4:=by rw [IntKind.wrap_i64];omega
 have s2:IntKind.i64.wrap ((i:Int)+4+(n:Int))=(i:Int)+4+(n:Int):=by rw [IntKind.wrap_i64];omega
 obtain ⟨off,ea,hcx⟩:=hr (by omega)
 subst ea
 have x0:w.cell? ⟨g,off+i,none⟩=some (.int .u8 k):=by
  have h:=hcx i hii
  have e:xs.getD i 0=k:=by rw [← ek,← eY,List.getD_eq_getElem?_getD,List.getD_eq_getElem?_getD,List.getElem?_drop,Nat.add_zero]
  rw [e] at h
  exact h
 have x1:W1.cell? ⟨g,off+i,none⟩=some (.int .u8 k):=(World.cell?_of_block (a:=⟨g,off+i,none⟩) (N.block g (block_lt_of_cell x0))).trans x0
 have b0:=BY 0
 rw [ek] at b0
 have wk:IntKind.i64.wrap k=k:=by rw [IntKind.wrap_i64];omega
 have M2:W1.heap[mq]?=some (.map regE 9):=(N.block mq ml).trans hm
 have lk:=regLook W1 mq M2 k
 rw [hV] at lk
 have HI:=hide hi
 obtain ⟨zs,ez⟩:∃ zs,Hid (dmX ys=zs):=⟨_,rfl⟩
 have ezx:(xs.drop (i+4)).take n=zs:=by
  rw [← ez.out]
  show _=(ys.drop 4).take (dmN ys)
  rw [eN,← eY,List.drop_drop]
 have lz:zs.length=n:=by rw [← ezx,List.length_take,List.length_drop];omega
 have bz:Byt zs:=by rw [← ezx];exact byt_takeQ (byt_drop hb _) _
 have gl:g < w.heap.size:=block_lt_of_cell x0
 have RZ:Hid (∀ V,Below w.heap.size w V→Rd V g (slA (some ⟨g,off,none⟩) (i+4) c) .u8 zs):=fun V nV=>by
  rw [← ezx]
  exact (hr.up nV).sl hc (i+4) n
 have ZN:=slA_none (i:=i+4) hz
 have SLZ:∀ V:World,(Instr.sliceAt 22 (.slice (some ⟨g,off,none⟩) xs.length c) (some (.int .i64 ((i:Int)+4))) (some (.int .i64 ((i:Int)+4+(n:Int)))) none).run Tryz.prog V = .ok (.slice (slA (some ⟨g,off,none⟩) (i+4) c) zs.length (c - (i+4))) V:=fun V=>by
  rw [show ((i:Int)+4)=((i+4:Nat):Int) by omega,show (((i+4:Nat):Int)+(n:Int))=((i+4+n:Nat):Int) by omega]
  exact sl_both V _ _ _ (i+4) (i+4+n) zs.length (by omega) (by omega) (by omega)
 have lzc:zs.length≤c - (i+4):=by omega
 obtain ⟨aZ,haZ⟩:∃ x,Hid (slA (some ⟨g,off,none⟩) (i+4) c=x):=⟨_,rfl⟩
 rw [haZ.out] at SLZ RZ ZN
 obtain ⟨cZ,hcZ⟩:∃ x,Hid (c - (i+4)=x):=⟨_,rfl⟩
 rw [hcZ.out] at SLZ ZN lzc
 obtain ⟨m,em⟩:∃ m,Hid (rdM k zs=m):=⟨_,rfl⟩
 have EM:Hid (dmM ys=m):=by show rdM (ys.getD 0 0) (dmX ys)=m;rw [ek,ez.out];exact em.out
 have LZ:zs.length≤1048576:=by omega
 have hN:decide ((0:Int)=0)=true:=rfl
 have GG:Hid (dmG ys=decide (mfF m=0∧bodF m=zs)):=by
  show _=_
  unfold dmG
  rw [EM.out,ez.out]
 have iC:Hid (dmC xs (i:Int)=if dmG ys=true then 0 else 3):=by
  show _=_
  unfold dmC
  rw [if_neg (by have:=HI.out;omega),EY.out,if_neg (by rw [HP.out];exact fun h=>h rfl)]
 obtain ⟨gd,egd⟩:∃ b,Hid (decide (mfF m=0∧bodF m=zs)=b):=⟨_,rfl⟩
 rw [egd.out] at GG
 have RWZ:Hid (∀ (V:World) (q:Nat),w.heap.size≤q→Below w.heap.size w V→RwC V q init S→Calls Tryz.prog 49 #[.iface T (.pointer (some ⟨q,0,none⟩)),.slice aZ zs.length cZ] V fun e V'=>e = .returned (.bool gd)∧(gd=true→RK cells nrm S V.heap.size q m V')∧Tch [q] V V'):=fun V q hq nV hQ=>by
  have:=HRW.out V q g aZ cZ zs hQ (RZ.out V nV) bz (fun _=>by omega) ZN lzc LZ
  rw [em.out,egd.out] at this
  exact this
 have HPM:Hid (∀ (V:World) (q:Nat) (p:MQ),nrm p=p→RwC V q (cells p m) S→Calls Tryz.prog 36 #[.iface T (.pointer (some ⟨q,0,none⟩))] V fun e V'=>e = .returned (.agg (mgV p m))∧Below V.heap.size V V'):=fun V q p hn hQ=>by
  have:=HPL.out V q p zs hn
  rw [em.out] at this
  exact this hQ
 have ENN:=hide eN
 have HIN:=hide hin
 clear hr hcx hb hz hc hm x0 n0 hn eN lx lf n8 n8' lf' l4' l1 hk0 M1 M2 hp ek eY hV ezx lz bz lzc LZ RZ ZN HRW HPL hN ml gl hin
 go_wp2_with fail
 refine (HNW.out W1).mono ?_
 rintro e W2 ⟨rfl,Q2,n2⟩
 have lq:w.heap.size < W1.heap.size:=Z.lt
 have Z2:=Z.up n2
 have N2:=nxt N n2
 clear Z N HNW x1 lk
 obtain ⟨q,hq⟩:∃ q,W1.heap.size=q:=⟨_,rfl⟩
 rw [hq] at Q2 lq ⊢
 clear hq n2
 have RC:=hide (RWZ.out W2 q (by omega) N2 Q2)
 have l2:=N2.size
 have HQ2:=hide Q2
 have ql2:=Q2.lt
 clear Q2 RWZ
 go_wp2_with (refine wpList_slT _ rfl 22 (.tmp 47) (some (.tmp 48)) (some (.tmp 49)) rfl (.slice (some ⟨g,off,none⟩) xs.length c) (some (.int .i64 ((i:Int)+4))) (some (.int .i64 ((i:Int)+4+(n:Int)))) rfl rfl rfl _ (SLZ _) ?_)
 refine RC.out.mono ?_
 rintro e W3 ⟨rfl,hG,T3⟩
 have Z3:RwC W3 w.heap.size [.int .i64 0,.int .i64 0,.int .i64 0,.slice none 0 0,.slice none 0 0,.string ⟨#[]⟩,.slice none 0 0,.slice none 0 0,.int .i64 0,.int .i64 0,.slice none 0 0,.bool false,.slice none 0 0,.slice none 0 0,.int .i64 0] 31:=Z2.tch T3 (by simp;omega)
 have N3:Below w.heap.size w W3:=N2.trans (T3.below l2 (by simp;omega))
 have HG:=hide hG
 have l3:=T3.size
 clear RC Z2 N2 T3 HQ2 SLZ hG
 have Z:=Z3
 have N:=N3
 clear Z3 N3
 cases gd
 ·go_upto_region 10 with fail
  have THR:=Z.thereG
  have RR:=World.rangeAt_setCells_same W3 w.heap.size 0 [.int .i64 3,.int .i64 0,.int .i64 0,.slice none 0 0,.slice none 0 0,.string ⟨#[]⟩,.slice none 0 0,.slice none 0 0,.int .i64 0,.int .i64 0,.slice none 0 0,.bool false,.slice none 0 0,.slice none 0 0,.int .i64 0] THR
  have OQ:=only_setG W3 w.heap.size [.int .i64 3,.int .i64 0,.int .i64 0,.slice none 0 0,.slice none 0 0,.string ⟨#[]⟩,.slice none 0 0,.slice none 0 0,.int .i64 0,.int .i64 0,.slice none 0 0,.bool false,.slice none 0 0,.slice none 0 0,.int .i64 0] 0
  have RES:Hid (DcP w xs (i:Int) (Ending.returned (.agg #[.int .i64 3,.int .i64 0,.int .i64 0,.slice none 0 0,.slice none 0 0,.string ⟨#[]⟩,.slice none 0 0,.slice none 0 0,.int .i64 0,.int .i64 0,.slice none 0 0,.bool false,.slice none 0 0,.slice none 0 0,.int .i64 0])) ((W3.setCells w.heap.size 0 [.int .i64 3,.int .i64 0,.int .i64 0,.slice none 0 0,.slice none 0 0,.string ⟨#[]⟩,.slice none 0 0,.slice none 0 0,.int .i64 0,.int .i64 0,.slice none 0 0,.bool false,.slice none 0 0,.slice none 0 0,.int .i64 0]))):=by
   have hC:dmC xs (i:Int)=3:=by rw [iC.out,GG.out];rfl
   have hR:dmR xs (i:Int)=msg0:=by unfold dmR;rw [hC];rfl
   have hE:dmE xs (i:Int)=0:=by unfold dmE;rw [hC];rfl
   show (∃ p bs F,Ending.returned (.agg #[.int .i64 3,.int .i64 0,.int .i64 0,.slice none 0 0,.slice none 0 0,.string ⟨#[]⟩,.slice none 0 0,.slice none 0 0,.int .i64 0,.int .i64 0,.slice none 0 0,.bool false,.slice none 0 0,.slice none 0 0,.int .i64 0]) = .returned (.agg (rsV (dmC xs (i:Int)) p (dmR xs (i:Int)) (dmE xs (i:Int))))∧w.heap.size≤F 0∧AnsM (W3.setCells w.heap.size 0 [.int .i64 3,.int .i64 0,.int .i64 0,.slice none 0 0,.slice none 0 0,.string ⟨#[]⟩,.slice none 0 0,.slice none 0 0,.int .i64 0,.int .i64 0,.slice none 0 0,.bool false,.slice none 0 0,.slice none 0 0,.int .i64 0]) F p (dmR xs (i:Int)) bs)∧Below w.heap.size w (W3.setCells w.heap.size 0 [.int .i64 3,.int .i64 0,.int .i64 0,.slice none 0 0,.slice none 0 0,.string ⟨#[]⟩,.slice none 0 0,.slice none 0 0,.int .i64 0,.int .i64 0,.slice none 0 0,.bool false,.slice none 0 0,.slice none 0 0,.int .i64 0])
   rw [hC,hR,hE]
   exact ⟨⟨mq0,[],fun _=>w.heap.size,rfl,Nat.le_refl _,AnsM.zero _ _⟩,N.trans (OQ.below (Nat.le_refl _))⟩
  clear OQ Z N
  go_wp2_with (refine wpList_store_mid rfl 31 (.tmp 6) (.tmp 53) rfl w.heap.size 0 #[.int .i64 3,.int .i64 0,.int .i64 0,.slice none 0 0,.slice none 0 0,.string ⟨#[]⟩,.slice none 0 0,.slice none 0 0,.int .i64 0,.int .i64 0,.slice none 0 0,.bool false,.slice none 0 0,.slice none 0 0,.int .i64 0] rfl rfl THR iMR (one15 _ rfl) ?_)
  exact bodyPost_ret (v := .agg #[.int .i64 3,.int .i64 0,.int .i64 0,.slice none 0 0,.slice none 0 0,.string ⟨#[]⟩,.slice none 0 0,.slice none 0 0,.int .i64 0,.int .i64 0,.slice none 0 0,.bool false,.slice none 0 0,.slice none 0 0,.int .i64 0]) (results_cellG Tryz.results24 _ _ w.heap.size _ d15 rfl RR hd15 hrow15 iMR) rfl RES.out
 ·obtain ⟨p, bs, F, f1, f2, hQ, hA, hnr⟩ := HG.out rfl
  have PLC:=hide (HPM.out W3 q p hnr hQ)
  have hC:Hid (dmC xs (i:Int)=0):=by show _=_;rw [iC.out,GG.out];rfl
  have hR:Hid (dmR xs (i:Int)=m):=by show _=_;unfold dmR;rw [if_pos hC.out,EY.out];exact EM.out
  have hX:Hid (dmE xs (i:Int)=(i:Int)+4+(n:Int)):=by show _=_;unfold dmE;rw [if_pos hC.out,EY.out,ENN.out]
  have HA:=hide hA
  clear HPM HG hQ hA hnr
  go_wp2_with fail
  refine PLC.out.mono ?_
  rintro e W4 ⟨rfl,n4⟩
  have Z4:=Z.up n4
  have N4:=nxt N n4
  have A4:=HA.out.up n4
  clear Z N HA PLC n4
  unfold mgV
  have THR:=Z4.thereG
  have OQ:=only_setG W4 w.heap.size [.int .i64 0,.int .i64 m.k,.int .i64 m.v,.slice p.a2 m.r.length p.c2,.slice p.a3 m.s.length p.c3,.string ⟨⟨m.ho⟩⟩,.slice p.a5 m.pr.length p.c5,.slice p.a6 m.ti.length p.c6,.int .i64 m.ag,.int .i64 m.ea,.slice p.a9 m.bi.length p.c9,.bool m.rs,.slice p.a11 m.ce.length p.c11,.slice p.a12 m.pf.length p.c12,.int .i64 ((i:Int)+4+(n:Int))] 0
  have RR:=World.rangeAt_setCells_same W4 w.heap.size 0 [.int .i64 0,.int .i64 m.k,.int .i64 m.v,.slice p.a2 m.r.length p.c2,.slice p.a3 m.s.length p.c3,.string ⟨⟨m.ho⟩⟩,.slice p.a5 m.pr.length p.c5,.slice p.a6 m.ti.length p.c6,.int .i64 m.ag,.int .i64 m.ea,.slice p.a9 m.bi.length p.c9,.bool m.rs,.slice p.a11 m.ce.length p.c11,.slice p.a12 m.pf.length p.c12,.int .i64 ((i:Int)+4+(n:Int))] THR
  have RES:Hid (DcP w xs (i:Int) (Ending.returned (.agg #[.int .i64 0,.int .i64 m.k,.int .i64 m.v,.slice p.a2 m.r.length p.c2,.slice p.a3 m.s.length p.c3,.string ⟨⟨m.ho⟩⟩,.slice p.a5 m.pr.length p.c5,.slice p.a6 m.ti.length p.c6,.int .i64 m.ag,.int .i64 m.ea,.slice p.a9 m.bi.length p.c9,.bool m.rs,.slice p.a11 m.ce.length p.c11,.slice p.a12 m.pf.length p.c12,.int .i64 ((i:Int)+4+(n:Int))])) ((W4.setCells w.heap.size 0 [.int .i64 0,.int .i64 m.k,.int .i64 m.v,.slice p.a2 m.r.length p.c2,.slice p.a3 m.s.length p.c3,.string ⟨⟨m.ho⟩⟩,.slice p.a5 m.pr.length p.c5,.slice p.a6 m.ti.length p.c6,.int .i64 m.ag,.int .i64 m.ea,.slice p.a9 m.bi.length p.c9,.bool m.rs,.slice p.a11 m.ce.length p.c11,.slice p.a12 m.pf.length p.c12,.int .i64 ((i:Int)+4+(n:Int))]))):=by
   show DcP _ _ _ _ _
   unfold DcP
   rw [hC.out,hR.out,hX.out]
   exact ⟨⟨p,bs,F,rfl,by omega,A4.onl OQ (by omega)⟩,N4.trans (OQ.below (Nat.le_refl _))⟩
  have ON:(#[.int .i64 0,.int .i64 m.k,.int .i64 m.v,.slice p.a2 m.r.length p.c2,.slice p.a3 m.s.length p.c3,.string ⟨⟨m.ho⟩⟩,.slice p.a5 m.pr.length p.c5,.slice p.a6 m.ti.length p.c6,.int .i64 m.ag,.int .i64 m.ea,.slice p.a9 m.bi.length p.c9,.bool m.rs,.slice p.a11 m.ce.length p.c11,.slice p.a12 m.pf.length p.c12,.int .i64 ((i:Int)+4+(n:Int))]:Array Value).all (·.oneCell')=true:=one15m 0 p m ((i:Int)+4+(n:Int))
  have bld:∀ U:World,(Instr.build 31 #[(1,.agg #[.int .i64 m.k,.int .i64 m.v,.slice p.a2 m.r.length p.c2,.slice p.a3 m.s.length p.c3,.string ⟨⟨m.ho⟩⟩,.slice p.a5 m.pr.length p.c5,.slice p.a6 m.ti.length p.c6,.int .i64 m.ag,.int .i64 m.ea,.slice p.a9 m.bi.length p.c9,.bool m.rs,.slice p.a11 m.ce.length p.c11,.slice p.a12 m.pf.length p.c12]),(2,.int .i64 ((i:Int)+4+(n:Int)))]).run Tryz.prog U = .ok (.agg #[.int .i64 0,.int .i64 m.k,.int .i64 m.v,.slice p.a2 m.r.length p.c2,.slice p.a3 m.s.length p.c3,.string ⟨⟨m.ho⟩⟩,.slice p.a5 m.pr.length p.c5,.slice p.a6 m.ti.length p.c6,.int .i64 m.ag,.int .i64 m.ea,.slice p.a9 m.bi.length p.c9,.bool m.rs,.slice p.a11 m.ce.length p.c11,.slice p.a12 m.pf.length p.c12,.int .i64 ((i:Int)+4+(n:Int))]) U:=fun U=>by kernel_rfl
  clear OQ Z4 N4 A4 hC hR hX
  go_wp2_with (first
   | (refine wpList_store_mid rfl 31 (.tmp 6) (.tmp 57) rfl w.heap.size 0 #[.int .i64 0,.int .i64 m.k,.int .i64 m.v,.slice p.a2 m.r.length p.c2,.slice p.a3 m.s.length p.c3,.string ⟨⟨m.ho⟩⟩,.slice p.a5 m.pr.length p.c5,.slice p.a6 m.ti.length p.c6,.int .i64 m.ag,.int .i64 m.ea,.slice p.a9 m.bi.length p.c9,.bool m.rs,.slice p.a11 m.ce.length p.c11,.slice p.a12 m.pf.length p.c12,.int .i64 ((i:Int)+4+(n:Int))] rfl rfl THR iMR ON ?_)
   | (refine wpList_buT _ rfl 31 #[(1,.tmp 55),(2,.tmp 56)] rfl #[(1,.agg #[.int .i64 m.k,.int .i64 m.v,.slice p.a2 m.r.length p.c2,.slice p.a3 m.s.length p.c3,.string ⟨⟨m.ho⟩⟩,.slice p.a5 m.pr.length p.c5,.slice p.a6 m.ti.length p.c6,.int .i64 m.ag,.int .i64 m.ea,.slice p.a9 m.bi.length p.c9,.bool m.rs,.slice p.a11 m.ce.length p.c11,.slice p.a12 m.pf.length p.c12]),(2,.int .i64 ((i:Int)+4+(n:Int)))] rfl _ (bld _) ?_))
  exact bodyPost_ret (v := .agg #[.int .i64 0,.int .i64 m.k,.int .i64 m.v,.slice p.a2 m.r.length p.c2,.slice p.a3 m.s.length p.c3,.string ⟨⟨m.ho⟩⟩,.slice p.a5 m.pr.length p.c5,.slice p.a6 m.ti.length p.c6,.int .i64 m.ag,.int .i64 m.ea,.slice p.a9 m.bi.length p.c9,.bool m.rs,.slice p.a11 m.ce.length p.c11,.slice p.a12 m.pf.length p.c12,.int .i64 ((i:Int)+4+(n:Int))]) (results_cellG Tryz.results24 _ _ w.heap.size _ d15 rfl RR hd15 hrow15 iMR) rfl RES.out
end Go.Proofs.YtmmbkkfjiaoeiaaGreat
namespace Go.Proofs.YtmmbkkfjiaoeiaaGreat
open Go Go.RowKit
def cHello:MQ→Msg→List Value:=fun p m=>[.int .i64 m.v,.slice p.a2 m.r.length p.c2,.slice p.a3 m.s.length p.c3,.string ⟨⟨m.ho⟩⟩,.slice p.a5 m.pr.length p.c5,.slice p.a6 m.ti.length p.c6,.int .i64 m.ag,.int .i64 m.ea,.slice p.a9 m.bi.length p.c9]
def nHello:MQ→MQ:=fun p=>{ mq0 with a2:=p.a2,c2:=p.c2,g2:=p.g2,a3:=p.a3,c3:=p.c3,g3:=p.g3,a5:=p.a5,c5:=p.c5,g5:=p.g5,a6:=p.a6,c6:=p.c6,g6:=p.g6,a9:=p.a9,c9:=p.c9,g9:=p.g9 }
theorem mfHello (xs:List Int):mfF (rdHello xs)=heF (rdHello xs).v (rdHello xs).r.length (rdHello xs).s.length (rdHello xs).ho (rdHello xs).pr (rdHello xs).ti.length (rdHello xs).bi.length (rdHello xs).ag (rdHello xs).ea:=by unfold mfF;simp [kfF,rdHello,helloM,msg0,sameM]
set_option maxRecDepth 100000 in
set_option maxHeartbeats 1000000 in
theorem rwHello_any (w : World) (q g : Nat) (a : Option Addr) (c : Nat) (xs : List Int) (hq : RwC w q [.int .i64 0, .slice none 0 0, .slice none 0 0, .string ⟨#[]⟩, .slice none 0 0, .slice none 0 0, .int .i64 0, .int .i64 0, .slice none 0 0] 76) (hr : Rd w g a .u8 xs) (hb : Byt xs) (hgq : 0 < xs.length → g ≠ q) (hc0 : a = none → c = 0) (hc : xs.length ≤ c) (hn : xs.length ≤ 1048576) :
    Calls Tryz.prog 49 #[.iface 72 (.pointer (some ⟨q, 0, none⟩)), .slice a xs.length c] w fun e w' => e = .returned (.bool (decide (mfF (rdHello xs) = 0 ∧ bodF (rdHello xs) = xs))) ∧ (decide (mfF (rdHello xs) = 0 ∧ bodF (rdHello xs) = xs) = true → RK cHello nHello 76 w.heap.size q (rdHello xs) w') ∧ Tch [q] w w' := by
  haveI hD : Decidable (HeG xs) := heD xs
  have hfit : bodF (rdM 1 xs) = xs → HeG xs := fun h => fit_rd (k := 1) (by decide) h
  have eB := rwB_is (k := 1) (xs := xs) (fits := HeG xs) hfit
  have isM : IsM (rdHello xs) := isM_rd hb 1
  have hql := hq.lt
  rw [show rdM 1 xs = rdHello xs from rfl] at eB
  rw [← eB]
  refine readWhole_core w q g a c xs (bodF (rdHello xs)) (mfF (rdHello xs)) (HeG xs) 72 76 [.int .i64 0, .slice none 0 0, .slice none 0 0, .string ⟨#[]⟩, .slice none 0 0, .slice none 0 0, .int .i64 0, .int .i64 0, .slice none 0 0] 89 88 87 (RK cHello nHello 76 w.heap.size q (rdHello xs)) hq hr hb (byt_rd hb 1) hgq (fun _ _ => by kernel_rfl) (fun _ _ => by kernel_rfl) (fun _ _ => by kernel_rfl) (fun _ _ => by kernel_rfl) (fun _ _ => by kernel_rfl) (fun _ _ => by kernel_rfl) ?_ ?_ ?_ (fun W W' h n => h.up n) (fun W W' h O => h.onl (by omega) O)
  · intro W p hQ hC hqp hpl hR hgp hwp
    refine (helRead_any W q p g a c xs 76 hQ hqp hC hpl hR hb hgp hgq hc0 hc hn).mono ?_
    rintro e W' ⟨⟨hfits, rfl, G1, G2, rv, G5, x6, x7, x8, Q, B1, l1, B2, l2, o12, ⟨F1, g2F, F5, RT, rvG⟩, B5, l5, hcs⟩ | ⟨hbad, hpan⟩, K⟩
    rotate_left
    · exact ⟨.inr ⟨hbad, hpan⟩, K⟩
    have hql2 := hQ.lt
    have sK : W.heap.size ≤ W'.heap.size := K.size
    obtain ⟨ra, rl, rc, hrv⟩ : ∃ ra rl rc, rv = .slice ra rl rc := by
      rcases RT.2 with ⟨h', _⟩ | ⟨g', cap, cur, h', _⟩
      · exact ⟨_, _, _, h'⟩
      · exact ⟨_, _, _, h'⟩
    subst hrv
    obtain ⟨hl, hcc, hzz, -⟩ := RowT.rdT RT
    subst hl
    rcases hcs with ⟨hN, rfl, rfl, rfl⟩ | ⟨hN0, rfl, rfl, G8, rfl, B8, o58⟩
    · have hbi : (rdHello xs).bi = [] := by show (if hpN xs = 0 then [] else _) = _; rw [if_pos hN]
      refine ⟨.inl ⟨hfits, rfl, ⟨some ⟨G1, 0, none⟩, 32, G1, some ⟨G2, 0, none⟩, 32, G2, ra, rc, adB ra, some ⟨G5, 0, none⟩, hpN xs, G5, none, 0, 0, none, 0, 0, none, 0, 0, []⟩, [], fnF W.heap.size G2 F1 G5 (G5 + 1) (G5 + 1) (G5 + 1) (G5 + 1), (show w.heap.size < W.heap.size by omega), (show q < W.heap.size by omega), ?_, ?_, rfl⟩, K⟩
      · show RwC W' q [.int .i64 (beN xs 0 1), .slice (some ⟨G1, 0, none⟩) (tkB xs 1 32).length 32, .slice (some ⟨G2, 0, none⟩) (tkB xs 33 32).length 32, .string ⟨⟨txB (tkB xs 66 (beN xs 65 1).toNat)⟩⟩, .slice ra (txT xs (hpA xs + 1) (xs.getD (hpA xs) 0).toNat).length rc, .slice (some ⟨G5, 0, none⟩) (tkB xs (hpB xs + 2) (hpN xs)).length (hpN xs), .int .i64 (if hpN xs = 0 then 0 else beN xs (hpC xs) 4), .int .i64 (if hpN xs = 0 then 0 else beN xs (hpC xs + 4) 1), .slice (none) (if hpN xs = 0 then [] else tkB xs (hpC xs + 5) 32 : List Int).length 0] 76
        rw [tkB_len, tkB_len, tkB_len, if_pos hN, if_pos hN, if_pos hN]
        exact Q
      · exact ⟨B1.own0, B2.own0, RT, B5.own0, (fun h0 => absurd h0 (by show ¬ 0 < (if hpN xs = 0 then [] else tkB xs (hpC xs + 5) 32 : List Int).length; rw [if_pos hN]; simp)), BRow.nil _ _, (fun h => absurd h (by simp [rdHello])), (fun _ => ⟨(by simp only [fnF] <;> omega), (by simp only [fnF] <;> omega)⟩), (fun _ => ⟨(by simp only [fnF] <;> omega), (by simp only [fnF] <;> omega)⟩), (fun h0 => ⟨(rowT_place RT h0).1, rvG _ (rowT_place RT h0).2.2.1⟩), (fun _ => ⟨(by simp only [fnF] <;> omega), (by simp only [fnF] <;> omega)⟩), (fun h0 => absurd h0 (by show ¬ 0 < (if hpN xs = 0 then [] else tkB xs (hpC xs + 5) 32 : List Int).length; rw [if_pos hN]; simp)), (fun h => absurd h (by simp [rdHello])), (fun i h => absurd h (by simp [rdHello])), (fun h => absurd h (by simp [rdHello])), ⟨(by simp only [fnF] <;> omega), (by simp only [fnF] <;> omega), (by simp only [fnF] <;> omega), (by simp only [fnF] <;> omega), (by simp only [fnF] <;> omega), (by simp only [fnF] <;> omega), (by simp only [fnF] <;> omega)⟩, ⟨(fun h => by cases h), (fun h => by cases h), (fun h => by cases h), (fun _ => rfl), (fun _ => rfl), fun i hi => absurd hi (by simp [rdHello])⟩, hcc, rfl⟩
    · have hN : ¬ hpN xs = 0 := by omega
      refine ⟨.inl ⟨hfits, rfl, ⟨some ⟨G1, 0, none⟩, 32, G1, some ⟨G2, 0, none⟩, 32, G2, ra, rc, adB ra, some ⟨G5, 0, none⟩, hpN xs, G5, some ⟨G8, 0, none⟩, 32, G8, none, 0, 0, none, 0, 0, []⟩, [], fnF W.heap.size G2 F1 G5 (G5 + 1) (G8 + 1) (G8 + 1) (G8 + 1), (show w.heap.size < W.heap.size by omega), (show q < W.heap.size by omega), ?_, ?_, rfl⟩, K⟩
      · show RwC W' q [.int .i64 (beN xs 0 1), .slice (some ⟨G1, 0, none⟩) (tkB xs 1 32).length 32, .slice (some ⟨G2, 0, none⟩) (tkB xs 33 32).length 32, .string ⟨⟨txB (tkB xs 66 (beN xs 65 1).toNat)⟩⟩, .slice ra (txT xs (hpA xs + 1) (xs.getD (hpA xs) 0).toNat).length rc, .slice (some ⟨G5, 0, none⟩) (tkB xs (hpB xs + 2) (hpN xs)).length (hpN xs), .int .i64 (if hpN xs = 0 then 0 else beN xs (hpC xs) 4), .int .i64 (if hpN xs = 0 then 0 else beN xs (hpC xs + 4) 1), .slice (some ⟨G8, 0, none⟩) (if hpN xs = 0 then [] else tkB xs (hpC xs + 5) 32 : List Int).length 32] 76
        rw [tkB_len, tkB_len, tkB_len, if_neg hN, if_neg hN, if_neg hN, tkB_len]
        exact Q
      · exact ⟨B1.own0, B2.own0, RT, B5.own0, (by show Own _ _ _ _ (if hpN xs = 0 then [] else tkB xs (hpC xs + 5) 32); rw [if_neg hN]; exact B8.own0), BRow.nil _ _, (fun h => absurd h (by simp [rdHello])), (fun _ => ⟨(by simp only [fnF] <;> omega), (by simp only [fnF] <;> omega)⟩), (fun _ => ⟨(by simp only [fnF] <;> omega), (by simp only [fnF] <;> omega)⟩), (fun h0 => ⟨(rowT_place RT h0).1, rvG _ (rowT_place RT h0).2.2.1⟩), (fun _ => ⟨(by simp only [fnF] <;> omega), (by simp only [fnF] <;> omega)⟩), (fun _ => ⟨(by simp only [fnF] <;> omega), (by simp only [fnF] <;> omega)⟩), (fun h => absurd h (by simp [rdHello])), (fun i h => absurd h (by simp [rdHello])), (fun h => absurd h (by simp [rdHello])), ⟨(by simp only [fnF] <;> omega), (by simp only [fnF] <;> omega), (by simp only [fnF] <;> omega), (by simp only [fnF] <;> omega), (by simp only [fnF] <;> omega), (by simp only [fnF] <;> omega), (by simp only [fnF] <;> omega)⟩, ⟨(fun h => by cases h), (fun h => by cases h), (fun h => by cases h), (fun h => by cases h), (fun _ => rfl), fun i hi => absurd hi (by simp [rdHello])⟩, hcc, rfl⟩
  · rintro W ⟨p, bs, F, h1, h2, h3, h4, -⟩
    rw [mfHello]
    have hM := h4.has
    refine (helloFault_any W q (rdHello xs).v p.a2 p.a3 p.a5 p.a6 p.a9 (rdHello xs).r.length (rdHello xs).s.length (rdHello xs).ti.length (rdHello xs).bi.length p.c2 p.c3 p.c5 p.c6 p.c9 p.g5 (rdHello xs).ho (rdHello xs).pr (rdHello xs).ag (rdHello xs).ea isM.rL isM.sL isM.tiL isM.biL isM.hoL hM.pr hM.prC isM.prL isM.prZ (h3.cell 0) (h3.cell 1) (h3.cell 2) (h3.cell 3) (h3.cell 4) (h3.cell 5) (h3.cell 6) (h3.cell 7) (h3.cell 8)).mono ?_
    rintro e W' ⟨rfl, hw⟩
    exact ⟨rfl, by rw [hw]; exact Below.refl _ _⟩
  · rintro W ⟨p, bs, F, h1, h2, h3, h4, -⟩ f0
    have hM := h4.has
    rw [mfHello] at f0
    exact helloBody_any W q (rdHello xs).v ⟨p.g2, p.a2, p.c2, (rdHello xs).r⟩ ⟨p.g3, p.a3, p.c3, (rdHello xs).s⟩ ⟨p.g6, p.a6, p.c6, (rdHello xs).ti⟩ ⟨p.g9, p.a9, p.c9, (rdHello xs).bi⟩ (rdHello xs).ho p.g5 p.a5 p.c5 (rdHello xs).pr (rdHello xs).ag (rdHello xs).ea (h3.cell 0) (h3.cell 1) (h3.cell 2) (h3.cell 3) (h3.cell 4) (h3.cell 5) (h3.cell 6) (h3.cell 7) (h3.cell 8) (lstR_of hM.r h4.z.z2 isM.rL) (lstR_of hM.s h4.z.z3 isM.sL) (lstR_of hM.ti h4.z.z6 isM.tiL) (lstR_of hM.bi h4.z.z9 isM.biL) (txsR_of hM.pr (he_pr f0) isM.prZ) isM.hoL
end Go.Proofs.YtmmbkkfjiaoeiaaGreat
namespace Go.Proofs.YtmmbkkfjiaoeiaaGreat
open Go Go.RowKit
def cAnswer:MQ→Msg→List Value:=fun p m=>[.int .i64 m.v,.slice p.a2 m.r.length p.c2,.slice p.a3 m.s.length p.c3,.bool m.rs]
def nAnswer:MQ→MQ:=fun p=>{ mq0 with a2:=p.a2,c2:=p.c2,g2:=p.g2,a3:=p.a3,c3:=p.c3,g3:=p.g3 }
theorem mfAnswer (xs:List Int):mfF (rdAnswer xs)=fpF (rdAnswer xs).v (rdAnswer xs).r.length (rdAnswer xs).s.length:=by unfold mfF;simp [kfF,rdAnswer,answerM,msg0,sameM]
set_option maxRecDepth 100000 in
set_option maxHeartbeats 1000000 in
theorem rwAnswer_any (w:World) (q g:Nat) (a:Option Addr) (c:Nat) (xs:List Int) (hq:RwC w q [.int .i64 0,.slice none 0 0,.slice none 0 0,.bool false] 79) (hr:Rd w g a .u8 xs) (hb:Byt xs) (hgq:0 < xs.length→g≠q) (hc0:a=none→c=0) (hc:xs.length≤c) (hn:xs.length≤1048576) :
  Calls Tryz.prog 49 #[.iface 77 (.pointer (some ⟨q,0,none⟩)),.slice a xs.length c] w fun e w'=>e = .returned (.bool (decide (mfF (rdAnswer xs)=0∧bodF (rdAnswer xs)=xs)))∧(decide (mfF (rdAnswer xs)=0∧bodF (rdAnswer xs)=xs)=true→RK cAnswer nAnswer 79 w.heap.size q (rdAnswer xs) w')∧Tch [q] w w':=by
 have hfit:bodF (rdM 2 xs)=xs→66≤xs.length:=fun h=>fit_rd (k:=2) (by decide) h
 have eB:=rwB_is (k:=2) (xs:=xs) (fits:=66≤xs.length) hfit
 have isM:IsM (rdAnswer xs):=isM_rd hb 2
 have hql:=hq.lt
 rw [show rdM 2 xs=rdAnswer xs from rfl] at eB
 rw [← eB]
 refine readWhole_core w q g a c xs (bodF (rdAnswer xs)) (mfF (rdAnswer xs)) (66≤xs.length) 77 79 [.int .i64 0,.slice none 0 0,.slice none 0 0,.bool false] 115 95 114 (RK cAnswer nAnswer 79 w.heap.size q (rdAnswer xs)) hq hr hb (byt_rd hb 2) hgq (fun _ _=>by kernel_rfl) (fun _ _=>by kernel_rfl) (fun _ _=>by kernel_rfl) (fun _ _=>by kernel_rfl) (fun _ _=>by kernel_rfl) (fun _ _=>by kernel_rfl) ?_ ?_ ?_ (fun W W' h n=>h.up n) (fun W W' h O=>h.onl (by omega) O)
 ·intro W p hQ hC hqp hpl hR hgp hwp
  refine (ansRead_any W q p g a c xs 79 hQ hqp hC hpl hR hb hgp hgq hc0 hc hn).mono ?_
  rintro e W' ⟨⟨hfits,rfl,G1,G2,Q,B1,l1,B2,l2,o12⟩ | ⟨hbad,hpan⟩,K⟩
  rotate_left
  ·exact ⟨.inr ⟨by omega,hpan⟩,K⟩
  have hql2:=hQ.lt
  have sK:W.heap.size≤W'.heap.size:=K.size
  refine ⟨.inl ⟨hfits,rfl,⟨some ⟨G1,0,none⟩,32,G1,some ⟨G2,0,none⟩,32,G2,none,0,0,none,0,0,none,0,0,none,0,0,none,0,0,[]⟩,[],fnF W.heap.size G2 (G2+1) (G2+1) (G2+1) (G2+1) (G2+1) (G2+1),(show w.heap.size < W.heap.size by omega),(show q < W.heap.size by omega),?_,?_,rfl⟩,K⟩
  ·show RwC W' q [.int .i64 (beN xs 0 1), .slice (some ⟨G1, 0, none⟩) (tkB xs 1 32).length 32, .slice (some ⟨G2, 0, none⟩) (tkB xs 33 32).length 32, .bool (beN xs 65 1 == 1)] 79
   rw [tkB_len,tkB_len]
   exact Q
  ·exact ⟨B1.own0,B2.own0,nilT _ _,(fun h=>absurd h (by simp [rdAnswer])),(fun h=>absurd h (by simp [rdAnswer])),BRow.nil _ _,(fun h=>absurd h (by simp [rdAnswer])),(fun _=>⟨(by simp only [fnF] <;> omega),(by simp only [fnF] <;> omega)⟩),(fun _=>⟨(by simp only [fnF] <;> omega),(by simp only [fnF] <;> omega)⟩),(fun h=>absurd h (by simp [rdAnswer])),(fun h=>absurd h (by simp [rdAnswer])),(fun h=>absurd h (by simp [rdAnswer])),(fun h=>absurd h (by simp [rdAnswer])),(fun i h=>absurd h (by simp [rdAnswer])),(fun h=>absurd h (by simp [rdAnswer])),⟨(by simp only [fnF] <;> omega),(by simp only [fnF] <;> omega),(by simp only [fnF] <;> omega),(by simp only [fnF] <;> omega),(by simp only [fnF] <;> omega),(by simp only [fnF] <;> omega),(by simp only [fnF] <;> omega)⟩,⟨(fun h=>by cases h),(fun h=>by cases h),(fun _=>rfl),(fun _=>rfl),(fun _=>rfl),fun i hi=>absurd hi (by simp [rdAnswer])⟩,Nat.zero_le _,rfl⟩
 ·rintro W ⟨p, bs, F, h1, h2, h3, h4, -⟩
  rw [mfAnswer]
  refine (firstFault_any W q (rdAnswer xs).v p.a2 p.a3 (rdAnswer xs).r.length (rdAnswer xs).s.length p.c2 p.c3 isM.rL isM.sL (h3.cell 0) (h3.cell 1) (h3.cell 2)).mono ?_
  rintro e W' ⟨rfl,hw⟩
  exact ⟨rfl,by rw [hw];exact Below.refl _ _⟩
 ·rintro W ⟨p, bs, F, h1, h2, h3, h4, -⟩ f0
  have hM:=h4.has
  exact answerBody_any W q (rdAnswer xs).v ⟨p.g2,p.a2,p.c2,(rdAnswer xs).r⟩ ⟨p.g3,p.a3,p.c3,(rdAnswer xs).s⟩ (rdAnswer xs).rs (h3.cell 0) (h3.cell 1) (h3.cell 2) (h3.cell 3) (lstR_of hM.r h4.z.z2 isM.rL) (lstR_of hM.s h4.z.z3 isM.sL)
end Go.Proofs.YtmmbkkfjiaoeiaaGreat
namespace Go.Proofs.YtmmbkkfjiaoeiaaGreat
open Go Go.RowKit
def cTicket:MQ→Msg→List Value:=fun p m=>[.int .i64 m.ag,.int .i64 m.ea,.slice p.a2 m.r.length p.c2,.slice p.a6 m.ti.length p.c6]
def nTicket:MQ→MQ:=fun p=>{ mq0 with a2:=p.a2,c2:=p.c2,g2:=p.g2,a6:=p.a6,c6:=p.c6,g6:=p.g6 }
theorem mfTicket (xs:List Int):mfF (rdTicket xs)=tiF (rdTicket xs).ag (rdTicket xs).ea (rdTicket xs).r.length (rdTicket xs).ti.length:=by unfold mfF;simp [kfF,rdTicket,ticketM,msg0,sameM]
set_option maxRecDepth 100000 in
set_option maxHeartbeats 1000000 in
theorem rwTicket_any (w:World) (q g:Nat) (a:Option Addr) (c:Nat) (xs:List Int) (hq:RwC w q [.int .i64 0,.int .i64 0,.slice none 0 0,.slice none 0 0] 82) (hr:Rd w g a .u8 xs) (hb:Byt xs) (hgq:0 < xs.length→g≠q) (hc0:a=none→c=0) (hc:xs.length≤c) (hn:xs.length≤1048576) :
  Calls Tryz.prog 49 #[.iface 80 (.pointer (some ⟨q,0,none⟩)),.slice a xs.length c] w fun e w'=>e = .returned (.bool (decide (mfF (rdTicket xs)=0∧bodF (rdTicket xs)=xs)))∧(decide (mfF (rdTicket xs)=0∧bodF (rdTicket xs)=xs)=true→RK cTicket nTicket 82 w.heap.size q (rdTicket xs) w')∧Tch [q] w w':=by
 have hfit:bodF (rdM 4 xs)=xs→42+(beN xs 40 2).toNat≤xs.length:=fun h=>fit_rd (k:=4) (by decide) h
 have eB:=rwB_is (k:=4) (xs:=xs) (fits:=42+(beN xs 40 2).toNat≤xs.length) hfit
 have isM:IsM (rdTicket xs):=isM_rd hb 4
 have hql:=hq.lt
 rw [show rdM 4 xs=rdTicket xs from rfl] at eB
 rw [← eB]
 refine readWhole_core w q g a c xs (bodF (rdTicket xs)) (mfF (rdTicket xs)) (42+(beN xs 40 2).toNat≤xs.length) 80 82 [.int .i64 0,.int .i64 0,.slice none 0 0,.slice none 0 0] 119 118 117 (RK cTicket nTicket 82 w.heap.size q (rdTicket xs)) hq hr hb (byt_rd hb 4) hgq (fun _ _=>by kernel_rfl) (fun _ _=>by kernel_rfl) (fun _ _=>by kernel_rfl) (fun _ _=>by kernel_rfl) (fun _ _=>by kernel_rfl) (fun _ _=>by kernel_rfl) ?_ ?_ ?_ (fun W W' h n=>h.up n) (fun W W' h O=>h.onl (by omega) O)
 ·intro W p hQ hC hqp hpl hR hgp hwp
  refine (tickRead_any W q p g a c xs 82 hQ hqp hC hpl hR hb hgp hgq hc0 hc hn).mono ?_
  rintro e W' ⟨⟨hfits,rfl,G1,G2,Q,B1,l1,B2,l2,o12⟩ | ⟨hbad,hpan⟩,K⟩
  rotate_left
  ·exact ⟨.inr ⟨by omega,hpan⟩,K⟩
  have hql2:=hQ.lt
  have sK:W.heap.size≤W'.heap.size:=K.size
  refine ⟨.inl ⟨hfits,rfl,⟨some ⟨G1,0,none⟩,32,G1,none,0,0,none,0,0,some ⟨G2,0,none⟩,(beN xs 40 2).toNat,G2,none,0,0,none,0,0,none,0,0,[]⟩,[],fnF W.heap.size G2 G2 G2 (G2+1) (G2+1) (G2+1) (G2+1),(show w.heap.size < W.heap.size by omega),(show q < W.heap.size by omega),?_,?_,rfl⟩,K⟩
  ·show RwC W' q [.int .i64 (beN xs 0 4), .int .i64 (beN xs 4 4), .slice (some ⟨G1, 0, none⟩) (tkB xs 8 32).length 32, .slice (some ⟨G2, 0, none⟩) (tkB xs 42 (beN xs 40 2).toNat).length (beN xs 40 2).toNat] 82
   rw [tkB_len,tkB_len]
   exact Q
  ·exact ⟨B1.own0,(fun h=>absurd h (by simp [rdTicket])),nilT _ _,B2.own0,(fun h=>absurd h (by simp [rdTicket])),BRow.nil _ _,(fun h=>absurd h (by simp [rdTicket])),(fun _=>⟨(by simp only [fnF] <;> omega),(by simp only [fnF] <;> omega)⟩),(fun h=>absurd h (by simp [rdTicket])),(fun h=>absurd h (by simp [rdTicket])),(fun _=>⟨(by simp only [fnF] <;> omega),(by simp only [fnF] <;> omega)⟩),(fun h=>absurd h (by simp [rdTicket])),(fun h=>absurd h (by simp [rdTicket])),(fun i h=>absurd h (by simp [rdTicket])),(fun h=>absurd h (by simp [rdTicket])),⟨(by simp only [fnF] <;> omega),(by simp only [fnF] <;> omega),(by simp only [fnF] <;> omega),(by simp only [fnF] <;> omega),(by simp only [fnF] <;> omega),(by simp only [fnF] <;> omega),(by simp only [fnF] <;> omega)⟩,⟨(fun h=>by cases h),(fun _=>rfl),(fun h=>by cases h),(fun _=>rfl),(fun _=>rfl),fun i hi=>absurd hi (by simp [rdTicket])⟩,Nat.zero_le _,rfl⟩
 ·rintro W ⟨p, bs, F, h1, h2, h3, h4, -⟩
  rw [mfTicket]
  refine (ticketFault_any W q (rdTicket xs).ag (rdTicket xs).ea p.a2 p.a6 (rdTicket xs).r.length (rdTicket xs).ti.length p.c2 p.c6 isM.rL isM.tiL (h3.cell 0) (h3.cell 1) (h3.cell 2) (h3.cell 3)).mono ?_
  rintro e W' ⟨rfl,hw⟩
  exact ⟨rfl,by rw [hw];exact Below.refl _ _⟩
 ·rintro W ⟨p, bs, F, h1, h2, h3, h4, -⟩ f0
  have hM:=h4.has
  exact ticketBody_any W q (rdTicket xs).ag (rdTicket xs).ea ⟨p.g2,p.a2,p.c2,(rdTicket xs).r⟩ ⟨p.g6,p.a6,p.c6,(rdTicket xs).ti⟩ (h3.cell 0) (h3.cell 1) (h3.cell 2) (h3.cell 3) (lstR_of hM.r h4.z.z2 isM.rL) (lstR_of hM.ti h4.z.z6 isM.tiL)
end Go.Proofs.YtmmbkkfjiaoeiaaGreat
namespace Go.Proofs.YtmmbkkfjiaoeiaaGreat
open Go Go.RowKit
def cEnd:MQ→Msg→List Value:=fun _ _=>[]
def nEnd:MQ→MQ:=fun _=>mq0
theorem mfEnd (xs:List Int):mfF (rdEnd xs)=0:=by unfold mfF;simp [kfF,rdEnd,endM,msg0,sameM]
theorem endRead_any (w:World) (u v:Value):Calls Tryz.prog 123 #[u,v] w fun e w'=>e = .returned (.tuple #[])∧w'=w:=by
 go_enter Tryz.func123,Tryz.ntmps123
 go_wp2
 go_end0
 exact ⟨rfl,rfl⟩
set_option maxRecDepth 100000 in
set_option maxHeartbeats 1000000 in
theorem rwEnd_any (w:World) (q g:Nat) (a:Option Addr) (c:Nat) (xs:List Int) (hq:RwC w q [] 85) (hr:Rd w g a .u8 xs) (hb:Byt xs) (hgq:0 < xs.length→g≠q) (_hc0:a=none→c=0) (_hc:xs.length≤c) (_hn:xs.length≤1048576) :
  Calls Tryz.prog 49 #[.iface 83 (.pointer (some ⟨q,0,none⟩)),.slice a xs.length c] w fun e w'=>e = .returned (.bool (decide (mfF (rdEnd xs)=0∧bodF (rdEnd xs)=xs)))∧(decide (mfF (rdEnd xs)=0∧bodF (rdEnd xs)=xs)=true→RK cEnd nEnd 85 w.heap.size q (rdEnd xs) w')∧Tch [q] w w':=by
 have hfit:bodF (rdM 5 xs)=xs→True:=fun h=>fit_rd (k:=5) (by decide) h
 have eB:=rwB_is (k:=5) (xs:=xs) (fits:=True) hfit
 have isM:IsM (rdEnd xs):=isM_rd hb 5
 have hql:=hq.lt
 rw [show rdM 5 xs=rdEnd xs from rfl] at eB
 rw [← eB]
 refine readWhole_core w q g a c xs (bodF (rdEnd xs)) (mfF (rdEnd xs)) (True) 83 85 [] 123 122 121 (RK cEnd nEnd 85 w.heap.size q (rdEnd xs)) hq hr hb (byt_rd hb 5) hgq (fun _ _=>by kernel_rfl) (fun _ _=>by kernel_rfl) (fun _ _=>by kernel_rfl) (fun _ _=>by kernel_rfl) (fun _ _=>by kernel_rfl) (fun _ _=>by kernel_rfl) ?_ ?_ ?_ (fun W W' h n=>h.up n) (fun W W' h O=>h.onl (by omega) O)
 ·intro W p hQ hC hqp hpl hR hgp hwp
  refine (endRead_any W (.pointer (some ⟨q,0,none⟩)) (.pointer (some ⟨p,0,none⟩))).mono ?_
  rintro e W' ⟨rfl,hw⟩
  have hw:=hw.symm
  subst hw
  have hql2:=hQ.lt
  refine ⟨.inl ⟨trivial,rfl,?_⟩,Tch.of_below (Below.refl _ _)⟩
  exact ⟨mq0,[],fun _=>W.heap.size,(show w.heap.size < W.heap.size by omega),(show q < W.heap.size by omega),hQ,⟨(fun h=>absurd h (by simp [rdEnd])),(fun h=>absurd h (by simp [rdEnd])),nilT _ _,(fun h=>absurd h (by simp [rdEnd])),(fun h=>absurd h (by simp [rdEnd])),BRow.nil _ _,(fun h=>absurd h (by simp [rdEnd])),(fun h=>absurd h (by simp [rdEnd])),(fun h=>absurd h (by simp [rdEnd])),(fun h=>absurd h (by simp [rdEnd])),(fun h=>absurd h (by simp [rdEnd])),(fun h=>absurd h (by simp [rdEnd])),(fun h=>absurd h (by simp [rdEnd])),(fun i h=>absurd h (by simp [rdEnd])),(fun h=>absurd h (by simp [rdEnd])),⟨Nat.le_refl _,Nat.le_refl _,Nat.le_refl _,Nat.le_refl _,Nat.le_refl _,Nat.le_refl _,Nat.le_refl _⟩,⟨(fun _=>rfl),(fun _=>rfl),(fun _=>rfl),(fun _=>rfl),(fun _=>rfl),fun i hi=>absurd hi (by simp [rdEnd])⟩,Nat.zero_le _,rfl⟩,rfl⟩
 ·rintro W ⟨p, bs, F, h1, h2, h3, h4, -⟩
  rw [mfEnd]
  refine (endFault_any W (.pointer (some ⟨q,0,none⟩))).mono ?_
  rintro e W' ⟨rfl,hw⟩
  exact ⟨rfl,by rw [hw];exact Below.refl _ _⟩
 ·rintro W ⟨p, bs, F, h1, h2, h3, h4, -⟩ f0
  exact endBody_any W _
end Go.Proofs.YtmmbkkfjiaoeiaaGreat
namespace Go.Proofs.YtmmbkkfjiaoeiaaGreat
open Go Go.RowKit
def cExtras:MQ→Msg→List Value:=fun p m=>[.slice p.a5 m.pr.length p.c5,.int .i64 m.ea]
def nExtras:MQ→MQ:=fun p=>{ mq0 with a5:=p.a5,c5:=p.c5,g5:=p.g5 }
theorem mfExtras (xs:List Int):mfF (rdExtras xs)=exF (rdExtras xs).pr (rdExtras xs).ea:=by unfold mfF;simp [kfF,rdExtras,extrasM,msg0,sameM]
set_option maxRecDepth 100000 in
set_option maxHeartbeats 1000000 in
theorem rwExtras_any (w:World) (q g:Nat) (a:Option Addr) (c:Nat) (xs:List Int) (hq:RwC w q [.slice none 0 0,.int .i64 0] 88) (hr:Rd w g a .u8 xs) (hb:Byt xs) (hgq:0 < xs.length→g≠q) (hc0:a=none→c=0) (hc:xs.length≤c) (hn:xs.length≤1048576) :
  Calls Tryz.prog 49 #[.iface 86 (.pointer (some ⟨q,0,none⟩)),.slice a xs.length c] w fun e w'=>e = .returned (.bool (decide (mfF (rdExtras xs)=0∧bodF (rdExtras xs)=xs)))∧(decide (mfF (rdExtras xs)=0∧bodF (rdExtras xs)=xs)=true→RK cExtras nExtras 88 w.heap.size q (rdExtras xs) w')∧Tch [q] w w':=by
 have hfit:bodF (rdM 8 xs)=xs→0 < xs.length∧ppT xs 1 (xs.getD 0 0).toNat+1≤xs.length:=fun h=>fit_rd (k:=8) (by decide) h
 have eB:=rwB_is (k:=8) (xs:=xs) (fits:=0 < xs.length∧ppT xs 1 (xs.getD 0 0).toNat+1≤xs.length) hfit
 have isM:IsM (rdExtras xs):=isM_rd hb 8
 have hql:=hq.lt
 rw [show rdM 8 xs=rdExtras xs from rfl] at eB
 rw [← eB]
 refine readWhole_core w q g a c xs (bodF (rdExtras xs)) (mfF (rdExtras xs)) (0 < xs.length∧ppT xs 1 (xs.getD 0 0).toNat+1≤xs.length) 86 88 [.slice none 0 0,.int .i64 0] 127 126 125 (RK cExtras nExtras 88 w.heap.size q (rdExtras xs)) hq hr hb (byt_rd hb 8) hgq (fun _ _=>by kernel_rfl) (fun _ _=>by kernel_rfl) (fun _ _=>by kernel_rfl) (fun _ _=>by kernel_rfl) (fun _ _=>by kernel_rfl) (fun _ _=>by kernel_rfl) ?_ ?_ ?_ (fun W W' h n=>h.up n) (fun W W' h O=>h.onl (by omega) O)
 ·intro W p hQ hC hqp hpl hR hgp hwp
  refine (extRead_any W q p g a c xs 88 hQ hqp hC hpl hR hb hgp hgq hc0 hc hn).mono ?_
  rintro e W' ⟨⟨hf1,hf2,rfl,v,Q,RT⟩ | ⟨hbad,hpan⟩,K⟩
  rotate_left
  ·exact ⟨.inr ⟨hbad,hpan⟩,K⟩
  have hql2:=hQ.lt
  have sK:W.heap.size≤W'.heap.size:=K.size
  obtain ⟨ra,rl,rc,hrv⟩:∃ ra rl rc,v = .slice ra rl rc:=by
   rcases RT.2 with ⟨h',_⟩ | ⟨g',cap,cur,h',_⟩
   ·exact ⟨_,_,_,h'⟩
   ·exact ⟨_,_,_,h'⟩
  subst hrv
  obtain ⟨hl,hcc,hzz,-⟩:=RowT.rdT RT
  subst hl
  refine ⟨.inl ⟨⟨hf1,hf2⟩,rfl,⟨none,0,0,none,0,0,ra,rc,adB ra,none,0,0,none,0,0,none,0,0,none,0,0,[]⟩,[],fnF W.heap.size W.heap.size W.heap.size W'.heap.size W'.heap.size W'.heap.size W'.heap.size W'.heap.size,(show w.heap.size < W.heap.size by omega),(show q < W.heap.size by omega),Q,?_,rfl⟩,K⟩
  exact ⟨(fun h=>absurd h (by simp [rdExtras])),(fun h=>absurd h (by simp [rdExtras])),RT,(fun h=>absurd h (by simp [rdExtras])),(fun h=>absurd h (by simp [rdExtras])),BRow.nil _ _,(fun h=>absurd h (by simp [rdExtras])),(fun h=>absurd h (by simp [rdExtras])),(fun h=>absurd h (by simp [rdExtras])),(fun h0=>⟨(rowT_place RT h0).1,(rowT_place RT h0).2.2.2⟩),(fun h=>absurd h (by simp [rdExtras])),(fun h=>absurd h (by simp [rdExtras])),(fun h=>absurd h (by simp [rdExtras])),(fun i h=>absurd h (by simp [rdExtras])),(fun h=>absurd h (by simp [rdExtras])),⟨(by simp only [fnF] <;> omega),(by simp only [fnF] <;> omega),(by simp only [fnF] <;> omega),(by simp only [fnF] <;> omega),(by simp only [fnF] <;> omega),(by simp only [fnF] <;> omega),(by simp only [fnF] <;> omega)⟩,⟨(fun _=>rfl),(fun _=>rfl),(fun _=>rfl),(fun _=>rfl),(fun _=>rfl),fun i hi=>absurd hi (by simp [rdExtras])⟩,hcc,rfl⟩
 ·rintro W ⟨p, bs, F, h1, h2, h3, h4, -⟩
  rw [mfExtras]
  have hM:=h4.has
  refine (extrasFault_any W q p.a5 p.c5 p.g5 (rdExtras xs).pr (rdExtras xs).ea hM.pr hM.prC isM.prL isM.prZ (h3.cell 0) (h3.cell 1)).mono ?_
  rintro e W' ⟨rfl,hw⟩
  exact ⟨rfl,by rw [hw];exact Below.refl _ _⟩
 ·rintro W ⟨p, bs, F, h1, h2, h3, h4, -⟩ f0
  have hM:=h4.has
  rw [mfExtras] at f0
  exact extrasBody_any W q p.g5 p.a5 p.c5 (rdExtras xs).pr (rdExtras xs).ea (h3.cell 0) (h3.cell 1) (txsR_of hM.pr (ex_pr f0) isM.prZ)
end Go.Proofs.YtmmbkkfjiaoeiaaGreat
namespace Go.Proofs.YtmmbkkfjiaoeiaaGreat
open Go Go.RowKit
def cCerts:MQ→Msg→List Value:=fun p m=>[.slice p.a11 m.ce.length p.c11]
def nCerts:MQ→MQ:=fun p=>{ mq0 with a11:=p.a11,c11:=p.c11,g11:=p.g11,ps:=p.ps }
theorem mfCerts (xs:List Int):mfF (rdCerts xs)=ceF (rdCerts xs).ce:=by unfold mfF;simp [kfF,rdCerts,certsM,msg0,sameM]
set_option maxRecDepth 100000 in
set_option maxHeartbeats 1000000 in
theorem rwCerts_any (w:World) (q g:Nat) (a:Option Addr) (c:Nat) (xs:List Int) (hq:RwC w q [.slice none 0 0] 91) (hr:Rd w g a .u8 xs) (hb:Byt xs) (hgq:0 < xs.length→g≠q) (hc0:a=none→c=0) (hc:xs.length≤c) (hn:xs.length≤1048576) :
  Calls Tryz.prog 49 #[.iface 89 (.pointer (some ⟨q,0,none⟩)),.slice a xs.length c] w fun e w'=>e = .returned (.bool (decide (mfF (rdCerts xs)=0∧bodF (rdCerts xs)=xs)))∧(decide (mfF (rdCerts xs)=0∧bodF (rdCerts xs)=xs)=true→RK cCerts nCerts 91 w.heap.size q (rdCerts xs) w')∧Tch [q] w w':=by
 have hfit:bodF (rdM 11 xs)=xs→0 < xs.length∧ppL xs 1 (xs.getD 0 0).toNat≤xs.length:=fun h=>fit_rd (k:=11) (by decide) h
 have eB:=rwB_is (k:=11) (xs:=xs) (fits:=0 < xs.length∧ppL xs 1 (xs.getD 0 0).toNat≤xs.length) hfit
 have isM:IsM (rdCerts xs):=isM_rd hb 11
 have hql:=hq.lt
 rw [show rdM 11 xs=rdCerts xs from rfl] at eB
 rw [← eB]
 refine readWhole_core w q g a c xs (bodF (rdCerts xs)) (mfF (rdCerts xs)) (0 < xs.length∧ppL xs 1 (xs.getD 0 0).toNat≤xs.length) 89 91 [.slice none 0 0] 131 130 129 (RK cCerts nCerts 91 w.heap.size q (rdCerts xs)) hq hr hb (byt_rd hb 11) hgq (fun _ _=>by kernel_rfl) (fun _ _=>by kernel_rfl) (fun _ _=>by kernel_rfl) (fun _ _=>by kernel_rfl) (fun _ _=>by kernel_rfl) (fun _ _=>by kernel_rfl) ?_ ?_ ?_ (fun W W' h n=>h.up n) (fun W W' h O=>h.onl (by omega) O)
 ·intro W p hQ hC hqp hpl hR hgp hwp
  refine (certsRead_any W q p g a c xs 91 hQ hqp hC hpl hR hb hgp hgq hc0 hc hn).mono ?_
  rintro e W' ⟨⟨hf1,hf2,rfl,v,bs,Q,BR⟩ | ⟨hbad,hpan⟩,K⟩
  rotate_left
  ·exact ⟨.inr ⟨hbad,hpan⟩,K⟩
  have hql2:=hQ.lt
  have sK:W.heap.size≤W'.heap.size:=K.size
  obtain ⟨ra,rc,hrv,hz0⟩:=BR.slice
  subst hrv
  refine ⟨.inl ⟨⟨hf1,hf2⟩,rfl,⟨none,0,0,none,0,0,none,0,0,none,0,0,none,0,0,ra,rc,adB ra,none,0,0,plbs bs⟩,bs,fnF W.heap.size W.heap.size W.heap.size W.heap.size W.heap.size W.heap.size W'.heap.size W'.heap.size,(show w.heap.size < W.heap.size by omega),(show q < W.heap.size by omega),Q,?_,rfl⟩,K⟩
  exact ⟨(fun h=>absurd h (by simp [rdCerts])),(fun h=>absurd h (by simp [rdCerts])),nilT _ _,(fun h=>absurd h (by simp [rdCerts])),(fun h=>absurd h (by simp [rdCerts])),BR,(fun h=>absurd h (by simp [rdCerts])),(fun h=>absurd h (by simp [rdCerts])),(fun h=>absurd h (by simp [rdCerts])),(fun h=>absurd h (by simp [rdCerts])),(fun h=>absurd h (by simp [rdCerts])),(fun h=>absurd h (by simp [rdCerts])),(fun h0=>bRow_place BR h0),(fun i hi h0=>BR.lt hi h0),(fun h=>absurd h (by simp [rdCerts])),⟨(by simp only [fnF] <;> omega),(by simp only [fnF] <;> omega),(by simp only [fnF] <;> omega),(by simp only [fnF] <;> omega),(by simp only [fnF] <;> omega),(by simp only [fnF] <;> omega),(by simp only [fnF] <;> omega)⟩,(certsZ (B:=W.heap.size) (va:=ra) (vc:=rc) (n:=(xs.getD 0 0).toNat) (by rw [clT_len] at BR;exact BR) rfl),Nat.zero_le _,rfl⟩
 ·rintro W ⟨p, bs, F, h1, h2, h3, h4, -⟩
  rw [mfCerts]
  have hM:=h4.has
  exact (certsFault_any W q p.g11 p.a11 p.c11 (rdCerts xs).ce p.ps hM.ce isM.ceL isM.ceZ (h3.cell 0)).mono (by rintro e W' ⟨rfl,n⟩;exact ⟨rfl,n⟩)
 ·rintro W ⟨p, bs, F, h1, h2, h3, h4, -⟩ f0
  have hM:=h4.has
  rw [mfCerts] at f0
  exact certsBody_any W q p.g11 p.a11 p.c11 (rdCerts xs).ce p.ps (h3.cell 0) (ctsR_of hM.ce (ce_n f0) isM.ceZ h4.z.zc)
end Go.Proofs.YtmmbkkfjiaoeiaaGreat
namespace Go.Proofs.YtmmbkkfjiaoeiaaGreat
open Go Go.RowKit
def cProof:MQ→Msg→List Value:=fun p m=>[.slice p.a12 m.pf.length p.c12]
def nProof:MQ→MQ:=fun p=>{ mq0 with a12:=p.a12,c12:=p.c12,g12:=p.g12 }
theorem mfProof (xs:List Int):mfF (rdProof xs)=pfF 64 (rdProof xs).pf.length:=by unfold mfF;simp [kfF,rdProof,proofM,msg0,sameM]
set_option maxRecDepth 100000 in
set_option maxHeartbeats 1000000 in
theorem rwProof_any (w:World) (q g:Nat) (a:Option Addr) (c:Nat) (xs:List Int) (hq:RwC w q [.slice none 0 0] 94) (hr:Rd w g a .u8 xs) (hb:Byt xs) (hgq:0 < xs.length→g≠q) (hc0:a=none→c=0) (hc:xs.length≤c) (hn:xs.length≤1048576) :
  Calls Tryz.prog 49 #[.iface 92 (.pointer (some ⟨q,0,none⟩)),.slice a xs.length c] w fun e w'=>e = .returned (.bool (decide (mfF (rdProof xs)=0∧bodF (rdProof xs)=xs)))∧(decide (mfF (rdProof xs)=0∧bodF (rdProof xs)=xs)=true→RK cProof nProof 94 w.heap.size q (rdProof xs) w')∧Tch [q] w w':=by
 have hfit:bodF (rdM 15 xs)=xs→64≤xs.length:=fun h=>fit_rd (k:=15) (by decide) h
 have eB:=rwB_is (k:=15) (xs:=xs) (fits:=64≤xs.length) hfit
 have isM:IsM (rdProof xs):=isM_rd hb 15
 have hql:=hq.lt
 rw [show rdM 15 xs=rdProof xs from rfl] at eB
 rw [← eB]
 refine readWhole_core w q g a c xs (bodF (rdProof xs)) (mfF (rdProof xs)) (64≤xs.length) 92 94 [.slice none 0 0] 138 137 136 (RK cProof nProof 94 w.heap.size q (rdProof xs)) hq hr hb (byt_rd hb 15) hgq (fun _ _=>by kernel_rfl) (fun _ _=>by kernel_rfl) (fun _ _=>by kernel_rfl) (fun _ _=>by kernel_rfl) (fun _ _=>by kernel_rfl) (fun _ _=>by kernel_rfl) ?_ ?_ ?_ (fun W W' h n=>h.up n) (fun W W' h O=>h.onl (by omega) O)
 ·intro W p hQ hC hqp hpl hR hgp hwp
  refine (proofRead_any W q p g a c xs 94 hQ hqp hC hR hc0 hc hn).mono ?_
  rintro e W' ⟨⟨hfits,rfl,Q,B⟩ | ⟨hbad,hpan⟩,K⟩
  rotate_left
  ·exact ⟨.inr ⟨by omega,hpan⟩,K⟩
  have hql2:=hQ.lt
  have sK:W.heap.size≤W'.heap.size:=K.size
  have B:Blk W' W.heap.size .u8 (tkB xs 0 64):=by rw [← tkB_take xs 0 64 (by omega)];exact B
  refine ⟨.inl ⟨hfits,rfl,⟨none,0,0,none,0,0,none,0,0,none,0,0,none,0,0,none,0,0,some ⟨W.heap.size,0,none⟩,64,W.heap.size,[]⟩,[],fnF W.heap.size W.heap.size W.heap.size W.heap.size W.heap.size W.heap.size W.heap.size (W.heap.size+1),(show w.heap.size < W.heap.size by omega),(show q < W.heap.size by omega),?_,?_,rfl⟩,K⟩
  ·show RwC W' q [.slice (some ⟨W.heap.size, 0, none⟩) (tkB xs 0 64).length 64] 94
   rw [tkB_len]
   exact Q
  ·exact ⟨(fun h=>absurd h (by simp [rdProof])),(fun h=>absurd h (by simp [rdProof])),nilT _ _,(fun h=>absurd h (by simp [rdProof])),(fun h=>absurd h (by simp [rdProof])),BRow.nil _ _,B.own0,(fun h=>absurd h (by simp [rdProof])),(fun h=>absurd h (by simp [rdProof])),(fun h=>absurd h (by simp [rdProof])),(fun h=>absurd h (by simp [rdProof])),(fun h=>absurd h (by simp [rdProof])),(fun h=>absurd h (by simp [rdProof])),(fun i h=>absurd h (by simp [rdProof])),(fun _=>⟨(by simp only [fnF] <;> omega),(by simp only [fnF] <;> omega)⟩),⟨(by simp only [fnF] <;> omega),(by simp only [fnF] <;> omega),(by simp only [fnF] <;> omega),(by simp only [fnF] <;> omega),(by simp only [fnF] <;> omega),(by simp only [fnF] <;> omega),(by simp only [fnF] <;> omega)⟩,⟨(fun _=>rfl),(fun _=>rfl),(fun _=>rfl),(fun _=>rfl),(fun h=>by cases h),fun i hi=>absurd hi (by simp [rdProof])⟩,Nat.zero_le _,rfl⟩
 ·rintro W ⟨p, bs, F, h1, h2, h3, h4, -⟩
  rw [mfProof]
  refine (proofFault_any W q p.a12 (rdProof xs).pf.length p.c12 isM.pfL (h3.cell 0)).mono ?_
  rintro e W' ⟨rfl,hw⟩
  exact ⟨rfl,by rw [hw];exact Below.refl _ _⟩
 ·rintro W ⟨p, bs, F, h1, h2, h3, h4, -⟩ f0
  have hM:=h4.has
  exact proofBody_any W q ⟨p.g12,p.a12,p.c12,(rdProof xs).pf⟩ (lstR_of hM.pf h4.z.z12 isM.pfL) (h3.cell 0)
end Go.Proofs.YtmmbkkfjiaoeiaaGreat
namespace Go.Proofs.YtmmbkkfjiaoeiaaGreat
open Go Go.RowKit
def cFinished:MQ→Msg→List Value:=fun p m=>[.slice p.a12 m.pf.length p.c12]
def nFinished:MQ→MQ:=fun p=>{ mq0 with a12:=p.a12,c12:=p.c12,g12:=p.g12 }
theorem mfFinished (xs:List Int):mfF (rdFinished xs)=pfF 32 (rdFinished xs).pf.length:=by unfold mfF;simp [kfF,rdFinished,finishedM,msg0,sameM]
set_option maxRecDepth 100000 in
set_option maxHeartbeats 1000000 in
theorem rwFinished_any (w:World) (q g:Nat) (a:Option Addr) (c:Nat) (xs:List Int) (hq:RwC w q [.slice none 0 0] 96) (hr:Rd w g a .u8 xs) (hb:Byt xs) (hgq:0 < xs.length→g≠q) (hc0:a=none→c=0) (hc:xs.length≤c) (hn:xs.length≤1048576) :
  Calls Tryz.prog 49 #[.iface 95 (.pointer (some ⟨q,0,none⟩)),.slice a xs.length c] w fun e w'=>e = .returned (.bool (decide (mfF (rdFinished xs)=0∧bodF (rdFinished xs)=xs)))∧(decide (mfF (rdFinished xs)=0∧bodF (rdFinished xs)=xs)=true→RK cFinished nFinished 96 w.heap.size q (rdFinished xs) w')∧Tch [q] w w':=by
 have hfit:bodF (rdM 20 xs)=xs→32≤xs.length:=fun h=>fit_rd (k:=20) (by decide) h
 have eB:=rwB_is (k:=20) (xs:=xs) (fits:=32≤xs.length) hfit
 have isM:IsM (rdFinished xs):=isM_rd hb 20
 have hql:=hq.lt
 rw [show rdM 20 xs=rdFinished xs from rfl] at eB
 rw [← eB]
 refine readWhole_core w q g a c xs (bodF (rdFinished xs)) (mfF (rdFinished xs)) (32≤xs.length) 95 96 [.slice none 0 0] 143 142 141 (RK cFinished nFinished 96 w.heap.size q (rdFinished xs)) hq hr hb (byt_rd hb 20) hgq (fun _ _=>by kernel_rfl) (fun _ _=>by kernel_rfl) (fun _ _=>by kernel_rfl) (fun _ _=>by kernel_rfl) (fun _ _=>by kernel_rfl) (fun _ _=>by kernel_rfl) ?_ ?_ ?_ (fun W W' h n=>h.up n) (fun W W' h O=>h.onl (by omega) O)
 ·intro W p hQ hC hqp hpl hR hgp hwp
  refine (finRead_any W q p g a c xs 96 hQ hqp hC hpl hR hb hgp hgq hc0 hc hn).mono ?_
  rintro e W' ⟨⟨hfits,rfl,G,Q,-,B,lG⟩ | ⟨hbad,hpan⟩,K⟩
  rotate_left
  ·exact ⟨.inr ⟨by omega,hpan⟩,K⟩
  have hql2:=hQ.lt
  have sK:W.heap.size≤W'.heap.size:=K.size
  refine ⟨.inl ⟨hfits,rfl,⟨none,0,0,none,0,0,none,0,0,none,0,0,none,0,0,none,0,0,some ⟨G,0,none⟩,32,G,[]⟩,[],fnF W.heap.size W.heap.size W.heap.size W.heap.size W.heap.size W.heap.size W.heap.size (G+1),(show w.heap.size < W.heap.size by omega),(show q < W.heap.size by omega),?_,?_,rfl⟩,K⟩
  ·show RwC W' q [.slice (some ⟨G, 0, none⟩) (tkB xs 0 32).length 32] 96
   rw [tkB_len]
   exact Q
  ·exact ⟨(fun h=>absurd h (by simp [rdFinished])),(fun h=>absurd h (by simp [rdFinished])),nilT _ _,(fun h=>absurd h (by simp [rdFinished])),(fun h=>absurd h (by simp [rdFinished])),BRow.nil _ _,B.own0,(fun h=>absurd h (by simp [rdFinished])),(fun h=>absurd h (by simp [rdFinished])),(fun h=>absurd h (by simp [rdFinished])),(fun h=>absurd h (by simp [rdFinished])),(fun h=>absurd h (by simp [rdFinished])),(fun h=>absurd h (by simp [rdFinished])),(fun i h=>absurd h (by simp [rdFinished])),(fun _=>⟨(by simp only [fnF] <;> omega),(by simp only [fnF] <;> omega)⟩),⟨(by simp only [fnF] <;> omega),(by simp only [fnF] <;> omega),(by simp only [fnF] <;> omega),(by simp only [fnF] <;> omega),(by simp only [fnF] <;> omega),(by simp only [fnF] <;> omega),(by simp only [fnF] <;> omega)⟩,⟨(fun _=>rfl),(fun _=>rfl),(fun _=>rfl),(fun _=>rfl),(fun h=>by cases h),fun i hi=>absurd hi (by simp [rdFinished])⟩,Nat.zero_le _,rfl⟩
 ·rintro W ⟨p, bs, F, h1, h2, h3, h4, -⟩
  rw [mfFinished]
  refine (finishedFault_any W q p.a12 (rdFinished xs).pf.length p.c12 isM.pfL (h3.cell 0)).mono ?_
  rintro e W' ⟨rfl,hw⟩
  exact ⟨rfl,by rw [hw];exact Below.refl _ _⟩
 ·rintro W ⟨p, bs, F, h1, h2, h3, h4, -⟩ f0
  have hM:=h4.has
  exact finishedBody_any W q ⟨p.g12,p.a12,p.c12,(rdFinished xs).pf⟩ (lstR_of hM.pf h4.z.z12 isM.pfL) (h3.cell 0)
end Go.Proofs.YtmmbkkfjiaoeiaaGreat
namespace Go.Proofs.YtmmbkkfjiaoeiaaGreat
open Go Go.RowKit
def cUpdate:MQ→Msg→List Value:=fun _ m=>[.int .i64 m.ea]
def nUpdate:MQ→MQ:=fun _=>mq0
theorem mfUpdate (xs:List Int):mfF (rdUpdate xs)=upF (rdUpdate xs).ea:=by unfold mfF;simp [kfF,rdUpdate,updateM,msg0,sameM]
set_option maxRecDepth 100000 in
set_option maxHeartbeats 1000000 in
theorem rwUpdate_any (w:World) (q g:Nat) (a:Option Addr) (c:Nat) (xs:List Int) (hq:RwC w q [.int .i64 0] 99) (hr:Rd w g a .u8 xs) (hb:Byt xs) (hgq:0 < xs.length→g≠q) (hc0:a=none→c=0) (hc:xs.length≤c) (hn:xs.length≤1048576) :
  Calls Tryz.prog 49 #[.iface 97 (.pointer (some ⟨q,0,none⟩)),.slice a xs.length c] w fun e w'=>e = .returned (.bool (decide (mfF (rdUpdate xs)=0∧bodF (rdUpdate xs)=xs)))∧(decide (mfF (rdUpdate xs)=0∧bodF (rdUpdate xs)=xs)=true→RK cUpdate nUpdate 99 w.heap.size q (rdUpdate xs) w')∧Tch [q] w w':=by
 have hfit:bodF (rdM 24 xs)=xs→1≤xs.length:=fun h=>fit_rd (k:=24) (by decide) h
 have eB:=rwB_is (k:=24) (xs:=xs) (fits:=1≤xs.length) hfit
 have isM:IsM (rdUpdate xs):=isM_rd hb 24
 have hql:=hq.lt
 rw [show rdM 24 xs=rdUpdate xs from rfl] at eB
 rw [← eB]
 refine readWhole_core w q g a c xs (bodF (rdUpdate xs)) (mfF (rdUpdate xs)) (1≤xs.length) 97 99 [.int .i64 0] 147 146 145 (RK cUpdate nUpdate 99 w.heap.size q (rdUpdate xs)) hq hr hb (byt_rd hb 24) hgq (fun _ _=>by kernel_rfl) (fun _ _=>by kernel_rfl) (fun _ _=>by kernel_rfl) (fun _ _=>by kernel_rfl) (fun _ _=>by kernel_rfl) (fun _ _=>by kernel_rfl) ?_ ?_ ?_ (fun W W' h n=>h.up n) (fun W W' h O=>h.onl (by omega) O)
 ·intro W p hQ hC hqp hpl hR hgp hwp
  refine (updRead_any W q p g a c xs 99 hQ hqp hC hpl hR hb hgp hgq hc0 hc hn).mono ?_
  rintro e W' ⟨⟨hfits,rfl,Q,-⟩ | ⟨hbad,hpan⟩,K⟩
  rotate_left
  ·exact ⟨.inr ⟨by omega,hpan⟩,K⟩
  have hql2:=hQ.lt
  have sK:W.heap.size≤W'.heap.size:=K.size
  exact ⟨.inl ⟨hfits,rfl,mq0,[],fun _=>W.heap.size,(show w.heap.size < W.heap.size by omega),(show q < W.heap.size by omega),Q,⟨(fun h=>absurd h (by simp [rdUpdate])),(fun h=>absurd h (by simp [rdUpdate])),nilT _ _,(fun h=>absurd h (by simp [rdUpdate])),(fun h=>absurd h (by simp [rdUpdate])),BRow.nil _ _,(fun h=>absurd h (by simp [rdUpdate])),(fun h=>absurd h (by simp [rdUpdate])),(fun h=>absurd h (by simp [rdUpdate])),(fun h=>absurd h (by simp [rdUpdate])),(fun h=>absurd h (by simp [rdUpdate])),(fun h=>absurd h (by simp [rdUpdate])),(fun h=>absurd h (by simp [rdUpdate])),(fun i h=>absurd h (by simp [rdUpdate])),(fun h=>absurd h (by simp [rdUpdate])),⟨Nat.le_refl _,Nat.le_refl _,Nat.le_refl _,Nat.le_refl _,Nat.le_refl _,Nat.le_refl _,Nat.le_refl _⟩,⟨(fun _=>rfl),(fun _=>rfl),(fun _=>rfl),(fun _=>rfl),(fun _=>rfl),fun i hi=>absurd hi (by simp [rdUpdate])⟩,Nat.zero_le _,rfl⟩,rfl⟩,K⟩
 ·rintro W ⟨p, bs, F, h1, h2, h3, h4, -⟩
  rw [mfUpdate]
  refine (updateFault_any W q (rdUpdate xs).ea (h3.cell 0)).mono ?_
  rintro e W' ⟨rfl,hw⟩
  exact ⟨rfl,by rw [hw];exact Below.refl _ _⟩
 ·rintro W ⟨p, bs, F, h1, h2, h3, h4, -⟩ f0
  exact updateBody_any W q (rdUpdate xs).ea (h3.cell 0)
end Go.Proofs.YtmmbkkfjiaoeiaaGreat
namespace Go.Proofs.YtmmbkkfjiaoeiaaGreat
open Go Go.RowKit
set_option maxRecDepth 20000 in
theorem decode_any (w:World) (mq g:Nat) (a:Option Addr) (c:Nat) (xs:List Int) (at_:Int) (hm:w.heap[mq]?=some (.map regE 9)) (hr:Rd w g a .u8 xs) (hb:Byt xs) (hz:a=none→c=0) (hc:xs.length≤c) (hx:xs.length≤1048576) :
  Calls Tryz.prog 24 #[.map (some mq),.slice a xs.length c,.int .i64 at_] w fun e w'=>DcP w xs at_ e w':=by
 by_cases ho:at_ < 0∨(xs.length:Int) < at_
 ·exact decode_out w mq a c xs at_ ho
 obtain ⟨i,rfl⟩:=Int.eq_ofNat_of_zero_le (show 0≤at_ by omega)
 have hi:i≤xs.length:=by omega
 by_cases hp:dmP (xs.drop i)=0
 rotate_left
 ·exact decode_pre w mq g a c xs i hi hm hr hb hz hc hx hp
 have hk:=(dmP_zero hp).2.1
 have:(xs.drop i).getD 0 0=1∨(xs.drop i).getD 0 0=2∨(xs.drop i).getD 0 0=4∨(xs.drop i).getD 0 0=5∨(xs.drop i).getD 0 0=8∨(xs.drop i).getD 0 0=11∨(xs.drop i).getD 0 0=15∨(xs.drop i).getD 0 0=20∨(xs.drop i).getD 0 0=24:=by simpa only [kinds,List.mem_cons,List.not_mem_nil,or_false] using hk
 rcases this with e | e | e | e | e | e | e | e | e
 ·exact decode_body w mq g a c xs i hi hm hr hb hz hc hx hp 1 e 39 72 76 [.int .i64 0,.slice none 0 0,.slice none 0 0,.string ⟨#[]⟩,.slice none 0 0,.slice none 0 0,.int .i64 0,.int .i64 0,.slice none 0 0] cHello nHello rfl (fun _ _=>by kernel_rfl) newHello_any (fun w q g a c ys h1 h2 h3 h4 h5 h6 h7=>rwHello_any w q g a c ys h1 h2 h3 h4 h5 h6 h7) (fun W q p ys hn h=>by rw [← hn] at h ⊢;exact plainHello_any (h:=h))
 ·exact decode_body w mq g a c xs i hi hm hr hb hz hc hx hp 2 e 40 77 79 [.int .i64 0,.slice none 0 0,.slice none 0 0,.bool false] cAnswer nAnswer rfl (fun _ _=>by kernel_rfl) newAnswer_any (fun w q g a c ys h1 h2 h3 h4 h5 h6 h7=>rwAnswer_any w q g a c ys h1 h2 h3 h4 h5 h6 h7) (fun W q p ys hn h=>by rw [← hn] at h ⊢;exact plainAnswer_any (h:=h))
 ·exact decode_body w mq g a c xs i hi hm hr hb hz hc hx hp 4 e 41 80 82 [.int .i64 0,.int .i64 0,.slice none 0 0,.slice none 0 0] cTicket nTicket rfl (fun _ _=>by kernel_rfl) newTicket_any (fun w q g a c ys h1 h2 h3 h4 h5 h6 h7=>rwTicket_any w q g a c ys h1 h2 h3 h4 h5 h6 h7) (fun W q p ys hn h=>by rw [← hn] at h ⊢;exact plainTicket_any (h:=h))
 ·exact decode_body w mq g a c xs i hi hm hr hb hz hc hx hp 5 e 42 83 85 [] cEnd nEnd rfl (fun _ _=>by kernel_rfl) newEnd_any (fun w q g a c ys h1 h2 h3 h4 h5 h6 h7=>rwEnd_any w q g a c ys h1 h2 h3 h4 h5 h6 h7) (fun W q p ys hn _=>by rw [← hn];exact plainEnd_any W (.pointer (some ⟨q,0,none⟩)))
 ·exact decode_body w mq g a c xs i hi hm hr hb hz hc hx hp 8 e 43 86 88 [.slice none 0 0,.int .i64 0] cExtras nExtras rfl (fun _ _=>by kernel_rfl) newExtras_any (fun w q g a c ys h1 h2 h3 h4 h5 h6 h7=>rwExtras_any w q g a c ys h1 h2 h3 h4 h5 h6 h7) (fun W q p ys hn h=>by rw [← hn] at h ⊢;exact plainExtras_any (h:=h))
 ·exact decode_body w mq g a c xs i hi hm hr hb hz hc hx hp 11 e 44 89 91 [.slice none 0 0] cCerts nCerts rfl (fun _ _=>by kernel_rfl) newCerts_any (fun w q g a c ys h1 h2 h3 h4 h5 h6 h7=>rwCerts_any w q g a c ys h1 h2 h3 h4 h5 h6 h7) (fun W q p ys hn h=>by rw [← hn] at h ⊢;exact plainCerts_any (h:=h))
 ·exact decode_body w mq g a c xs i hi hm hr hb hz hc hx hp 15 e 45 92 94 [.slice none 0 0] cProof nProof rfl (fun _ _=>by kernel_rfl) newProof_any (fun w q g a c ys h1 h2 h3 h4 h5 h6 h7=>rwProof_any w q g a c ys h1 h2 h3 h4 h5 h6 h7) (fun W q p ys hn h=>by rw [← hn] at h ⊢;exact plainProof_any (h:=h))
 ·exact decode_body w mq g a c xs i hi hm hr hb hz hc hx hp 20 e 46 95 96 [.slice none 0 0] cFinished nFinished rfl (fun _ _=>by kernel_rfl) newFinished_any (fun w q g a c ys h1 h2 h3 h4 h5 h6 h7=>rwFinished_any w q g a c ys h1 h2 h3 h4 h5 h6 h7) (fun W q p ys hn h=>by rw [← hn] at h ⊢;exact plainFinished_any (h:=h))
 ·exact decode_body w mq g a c xs i hi hm hr hb hz hc hx hp 24 e 47 97 99 [.int .i64 0] cUpdate nUpdate rfl (fun _ _=>by kernel_rfl) newUpdate_any (fun w q g a c ys h1 h2 h3 h4 h5 h6 h7=>rwUpdate_any w q g a c ys h1 h2 h3 h4 h5 h6 h7) (fun W q p ys hn h=>by rw [← hn] at h ⊢;exact plainUpdate_any (h:=h))
end Go.Proofs.YtmmbkkfjiaoeiaaGreat
namespace Go.Proofs.YtmmbkkfjiaoeiaaGreat
open Go Go.RowKit
set_option maxRecDepth 20000 in
set_option maxHeartbeats 1000000 in
theorem implDM_any (w:World) (g:Nat) (a:Option Addr) (c:Nat) (xs:List Int) (at_:Int) (hr:Rd w g a .u8 xs) (hb:Byt xs) (hz:a=none→c=0) (hc:xs.length≤c) (hx:xs.length≤1048576) :
  Calls Tryz.prog 8 #[.slice a xs.length c,.int .i64 at_] w fun e w'=>DcP w xs at_ e w':=by
 have Z:RwC (w.alloc (.cells #[.int .i64 0,.int .i64 0,.int .i64 0,.slice none 0 0,.slice none 0 0,.string ⟨#[]⟩,.slice none 0 0,.slice none 0 0,.int .i64 0,.int .i64 0,.slice none 0 0,.bool false,.slice none 0 0,.slice none 0 0,.int .i64 0] 31)) w.heap.size [.int .i64 0,.int .i64 0,.int .i64 0,.slice none 0 0,.slice none 0 0,.string ⟨#[]⟩,.slice none 0 0,.slice none 0 0,.int .i64 0,.int .i64 0,.slice none 0 0,.bool false,.slice none 0 0,.slice none 0 0,.int .i64 0] 31:=RwC.new w _ _
 have N:Below w.heap.size w (w.alloc (.cells #[.int .i64 0,.int .i64 0,.int .i64 0,.slice none 0 0,.slice none 0 0,.string ⟨#[]⟩,.slice none 0 0,.slice none 0 0,.int .i64 0,.int .i64 0,.slice none 0 0,.bool false,.slice none 0 0,.slice none 0 0,.int .i64 0] 31)):=(Below.refl _ _).alloc (Nat.le_refl _) _
 obtain ⟨d15,hd15,hrow15⟩:=rowMR
 have DC:=hide (fun (W:World) (mq:Nat) (hm:W.heap[mq]?=some (.map regE 9)) (n:Below w.heap.size w W)=>decode_any W mq g a c xs at_ hm (hr.up n) hb hz hc hx)
 clear hr hb hz hc hx
 go_enter Tryz.func8,Tryz.ntmps8
 go_upto_region 1 with fail
 generalize w.alloc (.cells #[.int .i64 0,.int .i64 0,.int .i64 0,.slice none 0 0,.slice none 0 0,.string ⟨#[]⟩,.slice none 0 0,.slice none 0 0,.int .i64 0,.int .i64 0,.slice none 0 0,.bool false,.slice none 0 0,.slice none 0 0,.int .i64 0] 31)=W at *
 go_wp2_with fail
 refine (messageKinds_any W).mono ?_
 rintro e W1 ⟨rfl,hm,n1⟩
 have Z1:=Z.up n1
 have N1:=nxt N n1
 have lw:=Z.lt
 have DD:=hide (DC.out W1 W.heap.size hm N1)
 have s1:=n1.size
 clear Z N n1 hm DC
 go_wp2_with fail
 refine DD.out.mono ?_
 rintro e W2 ⟨⟨p,bs,F,rfl,hF,hA⟩,n2⟩
 have Z2:=Z1.up n2
 have N2:=nxt N1 n2
 clear Z1 N1 n2 DD
 obtain ⟨cd,hcd⟩:∃ x,Hid (dmC xs at_=x):=⟨_,rfl⟩
 obtain ⟨m,hmm⟩:∃ x,Hid (dmR xs at_=x):=⟨_,rfl⟩
 obtain ⟨nx,hnx⟩:∃ x,Hid (dmE xs at_=x):=⟨_,rfl⟩
 rw [hmm.out] at hA
 rw [hcd.out,hmm.out,hnx.out]
 unfold rsV
 have THR:=Z2.thereG
 have OQ:=only_setG W2 w.heap.size [.int .i64 cd,.int .i64 m.k,.int .i64 m.v,.slice p.a2 m.r.length p.c2,.slice p.a3 m.s.length p.c3,.string ⟨⟨m.ho⟩⟩,.slice p.a5 m.pr.length p.c5,.slice p.a6 m.ti.length p.c6,.int .i64 m.ag,.int .i64 m.ea,.slice p.a9 m.bi.length p.c9,.bool m.rs,.slice p.a11 m.ce.length p.c11,.slice p.a12 m.pf.length p.c12,.int .i64 nx] 0
 have RR:=World.rangeAt_setCells_same W2 w.heap.size 0 [.int .i64 cd,.int .i64 m.k,.int .i64 m.v,.slice p.a2 m.r.length p.c2,.slice p.a3 m.s.length p.c3,.string ⟨⟨m.ho⟩⟩,.slice p.a5 m.pr.length p.c5,.slice p.a6 m.ti.length p.c6,.int .i64 m.ag,.int .i64 m.ea,.slice p.a9 m.bi.length p.c9,.bool m.rs,.slice p.a11 m.ce.length p.c11,.slice p.a12 m.pf.length p.c12,.int .i64 nx] THR
 have RES:Hid (DcP w xs at_ (Ending.returned (.agg #[.int .i64 cd,.int .i64 m.k,.int .i64 m.v,.slice p.a2 m.r.length p.c2,.slice p.a3 m.s.length p.c3,.string ⟨⟨m.ho⟩⟩,.slice p.a5 m.pr.length p.c5,.slice p.a6 m.ti.length p.c6,.int .i64 m.ag,.int .i64 m.ea,.slice p.a9 m.bi.length p.c9,.bool m.rs,.slice p.a11 m.ce.length p.c11,.slice p.a12 m.pf.length p.c12,.int .i64 nx])) (W2.setCells w.heap.size 0 [.int .i64 cd,.int .i64 m.k,.int .i64 m.v,.slice p.a2 m.r.length p.c2,.slice p.a3 m.s.length p.c3,.string ⟨⟨m.ho⟩⟩,.slice p.a5 m.pr.length p.c5,.slice p.a6 m.ti.length p.c6,.int .i64 m.ag,.int .i64 m.ea,.slice p.a9 m.bi.length p.c9,.bool m.rs,.slice p.a11 m.ce.length p.c11,.slice p.a12 m.pf.length p.c12,.int .i64 nx])):=by
  show DcP _ _ _ _ _
  unfold DcP
  rw [hcd.out,hmm.out,hnx.out]
  exact ⟨⟨p,bs,F,rfl,by omega,hA.onl OQ (by omega)⟩,N2.trans (OQ.below (Nat.le_refl _))⟩
 have ON:(#[.int .i64 cd,.int .i64 m.k,.int .i64 m.v,.slice p.a2 m.r.length p.c2,.slice p.a3 m.s.length p.c3,.string ⟨⟨m.ho⟩⟩,.slice p.a5 m.pr.length p.c5,.slice p.a6 m.ti.length p.c6,.int .i64 m.ag,.int .i64 m.ea,.slice p.a9 m.bi.length p.c9,.bool m.rs,.slice p.a11 m.ce.length p.c11,.slice p.a12 m.pf.length p.c12,.int .i64 nx]:Array Value).all (·.oneCell')=true:=one15m cd p m nx
 clear OQ Z2 N2 hA
 go_wp2_with (refine wpList_store_mid rfl 31 (.tmp 4) (.tmp 8) rfl w.heap.size 0 #[.int .i64 cd,.int .i64 m.k,.int .i64 m.v,.slice p.a2 m.r.length p.c2,.slice p.a3 m.s.length p.c3,.string ⟨⟨m.ho⟩⟩,.slice p.a5 m.pr.length p.c5,.slice p.a6 m.ti.length p.c6,.int .i64 m.ag,.int .i64 m.ea,.slice p.a9 m.bi.length p.c9,.bool m.rs,.slice p.a11 m.ce.length p.c11,.slice p.a12 m.pf.length p.c12,.int .i64 nx] rfl rfl THR iMR ON ?_)
 exact bodyPost_ret (v := .agg #[.int .i64 cd,.int .i64 m.k,.int .i64 m.v,.slice p.a2 m.r.length p.c2,.slice p.a3 m.s.length p.c3,.string ⟨⟨m.ho⟩⟩,.slice p.a5 m.pr.length p.c5,.slice p.a6 m.ti.length p.c6,.int .i64 m.ag,.int .i64 m.ea,.slice p.a9 m.bi.length p.c9,.bool m.rs,.slice p.a11 m.ce.length p.c11,.slice p.a12 m.pf.length p.c12,.int .i64 nx]) (results_cellG Tryz.results8 _ _ w.heap.size _ d15 rfl RR hd15 hrow15 iMR) rfl RES.out
theorem specDM_new (w:World) (g:Nat) (a:Option Addr) (c:Nat) (xs:List Int) (at_:Int) (hr:Rd w g a .u8 xs) (hb:Byt xs) (hz:a=none→c=0) (hc:xs.length≤c) (hx:xs.length≤1048576) :
  Calls Tryz.prog 12 #[.slice a xs.length c,.int .i64 at_] w fun e w'=>(∃ p,e = .returned (.agg (rsV (dmC xs at_) p (dmR xs at_) (dmE xs at_)))∧HasM w' p (dmR xs at_)∧∀ b,b < w.heap.size→NoM b p (dmR xs at_))∧Below w.heap.size w w':=by
 by_cases ho:at_ < 0∨(xs.length:Int) < at_
 ·exact specDM_out w a c xs at_ hx ho
 obtain ⟨i,rfl⟩:=Int.eq_ofNat_of_zero_le (show 0≤at_ by omega)
 by_cases hp:dmP (xs.drop i)=0
 ·exact specDM_body w g a c xs i (by omega) hr hb hz hc hx hp
 ·exact specDM_pre w g a c xs i (by omega) hr hb hz hc hx hp
theorem specDM_any (w:World) (g:Nat) (a:Option Addr) (c:Nat) (xs:List Int) (at_:Int) (hr:Rd w g a .u8 xs) (hb:Byt xs) (hz:a=none→c=0) (hc:xs.length≤c) (hx:xs.length≤1048576) :
  Calls Tryz.prog 12 #[.slice a xs.length c,.int .i64 at_] w fun e w'=>(∃ p,e = .returned (.agg (rsV (dmC xs at_) p (dmR xs at_) (dmE xs at_)))∧HasM w' p (dmR xs at_))∧Below w.heap.size w w' :=
 (specDM_new w g a c xs at_ hr hb hz hc hx).mono (by rintro e w' ⟨⟨p,h1,h2,-⟩,n⟩;exact ⟨⟨p,h1,h2⟩,n⟩)
theorem isM_dm {xs:List Int} (hb:Byt xs) (at_:Int):IsM (dmR xs at_):=by
 unfold dmR
 split
 ·exact isM_rd (dmX_byt (byt_drop hb _)) _
 ·exact isM0
end Go.Proofs.YtmmbkkfjiaoeiaaGreat
namespace Go.Proofs.YtmmbkkfjiaoeiaaGreat
open Go Go.RowKit
theorem RowB.butM {w w':World} {base s:Nat} {v:Value} {ys:List Int} (h:RowB w base v ys) (n:But s w w') (hs:s < base):RowB w' base v ys:=own_dg (X:=26) h (by decide) (dgK.but n hs)
theorem Drm.gLt {w:World} {s g:Nat} {a:Option Addr} {c:Nat} {xs:List Int} {t:Int} (d:Drm w s g a c xs t):0 < xs.length→g < w.heap.size:=fun h=>d.R.lt h
theorem But.appM {w W W':World} {s:Nat} (h:But s w W) (n:Below w.heap.size W W'):But s w W':=⟨n.os.trans h.os,n.tape.trans h.tape,n.output.trans h.output,Nat.le_trans h.size n.size,fun j hj hn=>(n.block j hj).trans (h.block j hj hn)⟩
set_option maxRecDepth 100000 in
set_option maxHeartbeats 4000000 in
theorem drawStream_M {w : World} {s g : Nat} {a : Option Addr} {c : Nat} {xs : List Int} {t : Int} (d : Drm w s g a c xs t) (t1 : t ≤ 1000) :
  Calls Tryz.prog 26 #[.pointer (some ⟨s,0,none⟩),.int .i64 2] w fun e w'=>∃ (v:Value) (ys:List Int) (u:Int),e = .returned v∧RowB w' w.heap.size v ys∧Byt ys∧ys.length≤20000∧u≤t+81∧Drm w' s g a c xs u∧But s w w':=by
 obtain ⟨i0,hi,hz0,hz1,hz2⟩:=info_parts Tryz.info5
 have ls:=d.S.lt
 have lg:=d.gLt
 have n0:Below w.heap.size w (w.alloc (.cells #[] 5)):=(Below.refl _ _).alloc (Nat.le_refl _) _
 have R0:Hid (RowB (w.alloc (.cells #[] 5)) w.heap.size (.slice (some ⟨w.heap.size,0,none⟩) 0 0) []):=World.ownsRow_lit w #[] 0 (Nat.le_refl _) (by unfold maxLen;omega) (by simp)
 have D0:=hide (d.up n0)
 have U0:Hid (But s w (w.alloc (.cells #[] 5))):=But.ofBelow n0
 have S0:w.heap.size≤(w.alloc (.cells #[] 5)).heap.size:=n0.size
 clear d n0
 go_enter Tryz.func26,Tryz.ntmps26
 go_upto_region 2 with fail
 generalize w.alloc (.cells #[] 5)=w1 at *
 go_wp2_with fail
 refine (next_M D0.out (by omega) (by omega) (by omega)).mono ?_
 rintro e w2 ⟨r,rfl,-,hr,d2,b2⟩
 have R2:=R0.out.butM b2 ls
 have U2:=U0.out.trans b2
 clear R0 U0 D0 b2
 go_wp2_with fail
 go_loopw [5,6] (fun v i wr=>∃ (k:Nat) (ys:List Int) (u:Int),i = .int .i64 (k:Int)∧RowB wr w.heap.size v ys∧Byt ys∧ys.length+10000*k≤20000∧u+40*k≤t+81∧Drm wr s g a c xs u∧But s w wr) (fun _ i _=>(intOf i).toNat)
 case atStart=>exact ⟨r,[],_,rfl,R2,byt_nil,by simp;omega,by omega,d2,U2⟩
 case round =>
  clear R2 d2 U2 hr
  obtain ⟨k,ys,u,rfl,R,yb,yl,hu,D,U⟩:=hrel
  by_cases hk:k=0
  ·subst hk
   rw [show ((0:Nat):Int)=0 from rfl]
   have FR:=hide R
   have FD:=hide D
   have FU:=hide U
   clear R D U
   go_wp2
   go_ret
   exact ⟨_,ys,u,rfl,FR.out,yb,by omega,by omega,FD.out,FU.out⟩
  ·have tk : decide ((0 : Int) < (k : Int)) = true := decide_eq_true (by omega)
   have tk':0 < k:=by omega
   have sk:IntKind.i64.wrap ((k:Int) - 1)=((k - 1:Nat):Int):=by rw [IntKind.wrap_i64];omega
   have sk':wrap64 ((k:Int) - 1)=((k - 1:Nat):Int):=by unfold wrap64;omega
   go_wp2_with fail
   refine (drawMsg_M D (by omega)).mono ?_
   rintro e w3 ⟨m,u3,-,⟨v0,v1,v2,v3,v4,v5,v6,v7,v8,v9,v10,v11,v12,rfl,M⟩,hu3,d3,b3⟩
   obtain ⟨p,em,HM,IM,HZ⟩:=M.rd.msg
   rw [em]
   have R3:=R.butM b3 ls
   have U3:=U.trans b3
   have SE:=hide (specEnc_any w3 p m HM IM HZ)
   have EL:Hid ((encF m).length≤10000):=enc_le m
   have EB:Hid (Byt (encF m)):=by
    by_cases mz:mfF m=0
    ·exact enc_bytM mz IM
    ·show Byt _
     unfold encF
     rw [if_neg mz]
     exact byt_nil
   clear D R U b3 M em HM HZ IM
   unfold mgV
   go_wp2_with fail
   refine SE.out.mono ?_
   rintro e w4 ⟨⟨x,rfl,R4⟩,n4⟩
   have s3:=U3.size
   have s4:=n4.size
   have RV:=R3.up n4
   have D4:=d3.up n4
   have U4:=U3.appM (n4.mono s3)
   clear SE R3 d3 U3 n4
   obtain ⟨ax,cx,gx,rfl,rx,nx,kx,_⟩:=R4.rd
   obtain ⟨v',w5,h1,R5,N5⟩:=append_any w4 22 i0 Tryz.underlying22 hi hz0 hz1 hz2 w.heap.size w.heap.size _ ys RV gx ax cx (encF m) rx nx (by have:=EL.out;omega) (Nat.le_refl _) (by omega)
   have D5:=hide (D4.keep (N5.block s (by omega)) (fun h0=>N5.block g (by have:=lg h0;omega)))
   have U5:=hide (U4.appM N5)
   have R5H:=hide R5
   have B5:Hid (Byt (ys ++ encF m)):=byt_apd yb EB.out
   have L5:Hid ((ys ++ encF m).length+10000*(k - 1)≤20000):=by
    show _≤_
    have:=EL.out
    rw [List.length_append]
    omega
   clear RV R5 R4 rx nx N5 D4 U4 EL EB yb kx
   go_wp2_with (at_builtin;refine Lib.wpList_append_run _ rfl _ _ 22 22 rfl _ _ rfl rfl _ _ h1 ?_)
   clear h1
   go_wp2
   go_roundw
   case rel=>exact ⟨k - 1,ys ++ encF m,u3,by first | rfl | go_num,R5H.out,B5.out,L5.out,by omega,D5.out,U5.out⟩
   case measure=>simp [intOf];omega
theorem spoil_M {w0 w:World} {s g:Nat} {a:Option Addr} {c:Nat} {xs:List Int} {t:Int} {v:Value} {ys:List Int} (d:Drm w s g a c xs t) (hl:xs.length≤1048576) (t1:t≤10000) (hR:RowB w w0.heap.size v ys) (b:But s w0 w) (ls:s < w0.heap.size) (lg:0 < xs.length→g < w0.heap.size) (yb:Byt ys) (y1:ys.length≤1000000) :
  Calls Tryz.prog 28 #[.pointer (some ⟨s,0,none⟩),v] w fun e w'=>∃ (zs:List Int) (r:Value) (u:Int),e = .returned r∧Byt zs∧zs.length≤ys.length+1∧RowB w' w0.heap.size r zs∧u≤t+10∧Drm w' s g a c xs u∧But s w0 w':=by
 refine (l10SpoilM_any w s g a c xs t d.S d.R d.ne d.hb hl d.t0 t1 v ys w0.heap.size hR ls b.size yb y1).mono ?_
 rintro e w' ⟨zs,r,rfl,zb,zl,R,N,K,u,S,u0,u1⟩
 have ob:∀ k,k < w0.heap.size→v.ownBlock≠some k:=fun k hk e=>by have:=(World.ownsRow.lt hR k e).1;omega
 have sz:=b.size
 refine ⟨zs,r,u,rfl,zb,zl,R,u1,⟨S,?_,d.ne,d.hb,d.hl,u0⟩,⟨N.os.trans b.os,N.tape.trans b.tape,N.output.trans b.output,Nat.le_trans b.size N.size,fun k hk hn=>(K k (by omega) hn (ob k hk)).trans (b.block k hk hn)⟩⟩
 by_cases h0:0 < xs.length
 ·exact d.R.of_block (K g (by have:=lg h0;omega) (d.ne h0) (ob g (lg h0)))
 ·exact fun h1=>absurd h1 h0
end Go.Proofs.YtmmbkkfjiaoeiaaGreat
