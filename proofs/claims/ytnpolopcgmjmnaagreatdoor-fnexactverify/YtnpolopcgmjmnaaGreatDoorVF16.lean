import Derived.Test.YtnpolopcgmjmnaaGreatDoorVF15
namespace Go.Proofs.YtnpolopcgmjmnaaGreatDoor
set_option maxRecDepth 100000
open Go.RowKit
theorem div_of {A D q r:Int} (h:A=q*D+r) (r0:0≤r) (r1:r < D):q=A / D∧r=A % D:=by
 have h1:A / D=q:=by
  rw [h,Int.add_comm,Int.add_mul_ediv_right _ _ (by omega),Int.ediv_eq_zero_of_lt r0 r1]
  omega
 have h2:A % D=r:=by
  rw [h,Int.add_comm,Int.add_mul_emod_self_right,Int.emod_eq_of_lt r0 r1]
 exact ⟨h1.symm,h2.symm⟩
theorem and1 (x:Int) (h0:0≤x) (h1:x < 256):bits BinOp.and IntKind.i64 x 1=x % 2 :=
 bits_mask .i64 8 (by decide) (fun n a b=>by rw [IntKind.wrap_i64];omega) 1 (by decide) x h0 h1
theorem and255 (x:Int) (h0:0≤x) (h1:x < 1024):bits BinOp.and IntKind.i64 x 255=x % 256 :=
 bits_mask .i64 10 (by decide) (fun n a b=>by rw [IntKind.wrap_i64];omega) 8 (by decide) x h0 h1
def DivRow (B:Nat) (w':World) (e:Ending) (q r:Int):Prop :=
 ∃ (qs rs:List Int) (a1:Option Addr) (c1 g1:Nat) (a2:Option Addr) (c2 g2:Nat),e = .returned (.tuple #[.slice a1 qs.length c1,.slice a2 rs.length c2])∧Canon qs q∧Canon rs r∧(Own w' g1 a1 .u8 qs∧(a1=none→c1=0)∧qs.length≤c1∧B≤g1)∧(Own w' g2 a2 .u8 rs∧(a2=none→c2=0)∧rs.length≤c2∧B≤g2)∧(0 < qs.length→g1 < g2)
set_option maxRecDepth 100000 in
set_option maxHeartbeats 8000000 in
theorem l1Div_any (w : World) (g g' : Nat) (a b : Option Addr) (ca cb : Nat) (xs us : List Int) (ha : Rd w g a .u8 xs) (hb : Rd w g' b .u8 us) (hx : Byt xs) (hu : Byt us) (hb0 : b = none → cb = 0) (hbc : us.length ≤ cb)
  (hn:xs.length≤4096) (hm:us.length≤4096) (h0:0 < bval us) :
  Calls Tryz.prog 62 #[.slice a xs.length ca,.slice b us.length cb] w fun e w'=>DivRow w.heap.size w' e (bval xs / bval us) (bval xs % bval us)∧Below w.heap.size w w':=by
 obtain ⟨i0,hi,hz0,hz1,hz2⟩:=info_parts Tryz.info5
 go_enter Tryz.func62,Tryz.ntmps62
 go_wp2_with fail
 refine (l1Trim_any w g' b cb us hb hu hb0 hbc (by omega)).mono ?_
 rintro e w1 ⟨ds,C,dl,⟨a1,c1,g1,rfl,o1,q1,q2,q3⟩,n1⟩
 have dv:=C.2.1
 have db:=C.1
 have D0:0 < bval ds:=by omega
 have dD:=bval_lt db
 have z1:=n1.size
 have DV:=hide dv
 clear dv
 have lx8:(xs.length:Int)*8≤32768:=by omega
 go_wp2_with (first | (at_make;refine wpList_make_full _ rfl (.tmp 23) (.tmp 23) 22 rfl w1.heap.size 5 i0 (.int .u8 0) 1 Tryz.underlying22 hi hz0 hz1 .i64 .i64 _ _ (ds.length+1) rfl rfl (by omega) (by omega) (by rw [hz2];omega) (by unfold maxLen;omega) (Nat.le_refl _) ?_;intro w2 hown2 hgrow2) | (at_make;refine wpList_make_full _ rfl (.tmp 26) (.tmp 26) 22 rfl w2.heap.size 5 i0 (.int .u8 0) 1 Tryz.underlying22 hi hz0 hz1 .i64 .i64 _ _ xs.length rfl rfl rfl rfl (by rw [hz2];omega) (by unfold maxLen;omega) (Nat.le_refl _) ?_;intro w3 hown3 hgrow3))
 have B2:=Blk.of_made hown2
 have n2:Below w1.heap.size w1 w2:=(Below.refl _ _).grown hgrow2 (Nat.le_refl _) (by simp)
 have B3:=Blk.of_made hown3
 have n3:Below w2.heap.size w2 w3:=(Below.refl _ _).grown hgrow3 (Nat.le_refl _) (by simp)
 have B2a:=B2.up n3
 have o1a:=(o1.up n2).up n3
 have z2:=B2.lt
 have z3:=B3.lt
 have N3:=nxt (nxt n1 n2) n3
 have l1:=o1.rd.lt
 have ltD:=hide (Nat.lt_of_lt_of_le (Nat.lt_succ_self ds.length) (Nat.le_refl _))
 clear hown2 hgrow2 hown3 hgrow3 B2 n2 n3 o1 n1
 go_loopw [10] (fun i wr=>∃ (k:Nat) (Q:Int) (rs qs:List Int),k≤8*xs.length∧i = .int .i64 k∧(Hid (rs.length=ds.length+1)∧Byt rs∧bval rs < bval ds∧Hid (abits xs k=Q*bval ds+bval rs))∧QTo qs xs.length k Q∧Blk wr w1.heap.size .u8 rs∧Blk wr w2.heap.size .u8 qs∧Own wr g1 a1 .u8 ds∧Below w.heap.size w wr) (fun i _=>8*xs.length - (intOf i).toNat)
 case atStart =>
  have zr:bval (List.replicate (ds.length+1) (0:Int))=0:=by
   have:=(QTo.zero (ds.length+1)).2.2.1
   omega
  have ab:abits xs 0=0:=by
   unfold abits
   have:=hx 0
   simp [bval_nil]
   exact Int.ediv_eq_zero_of_lt (by simpa using this.1) (by simpa using this.2)
  exact ⟨0,0,_,_,Nat.zero_le _,rfl,⟨by show _=_;simp,byt_zeros _,by omega,by show _=_;rw [zr,ab];omega⟩,QTo.zero _,B2a,B3,o1a,N3⟩
 case round =>
  obtain ⟨k,Q,rs,qs,hk,rfl,⟨rl,rb,rD,rE⟩,hQ,bR,bQ,oD,hN⟩:=hrel
  clear B2a B3 o1a N3
  by_cases hlt:k < 8*xs.length
  ·obtain ⟨off, rfl, hc⟩ := ha (by omega)
   obtain ⟨p,hp⟩:∃ p:Nat,k / 8=p:=⟨_,rfl⟩
   obtain ⟨m,hmm⟩:∃ m:Nat,7 - k % 8=m:=⟨_,rfl⟩
   have xb:=hx p
   have cx:wr.cell? ⟨g,off+p,none⟩=some (.int .u8 (xs.getD p 0)):=(hN.cell (p:=⟨g,off+p,none⟩) (ha.lt (by omega))).trans (hc p (by omega))
   have p1:(k:Int) / 8=(p:Int):=by omega
   have p2:(p:Int) < (xs.length:Int):=by omega
   have p3:7 - (k:Int) % 8=(m:Int):=by omega
   have p4:m≤7:=by omega
   have p5:(k:Int) < (xs.length:Int)*8:=by omega
   have BT:Hid (bitAt xs k=xs.getD p 0 / 2 ^ m % 2):=by show _=_;unfold bitAt;rw [hp,hmm]
   have pm:=p2pos m
   have v0:0≤xs.getD p 0 / 2 ^ m:=Int.ediv_nonneg xb.1 (by omega)
   have v1:xs.getD p 0 / 2 ^ m < 256:=Int.lt_of_le_of_lt (Int.ediv_le_self _ xb.1) xb.2
   have e1:=and1 _ v0 v1
   have bb:=bit_01 xs k
   have HP:=hide (And.intro hp hmm)
   generalize xs.getD p 0=x at *
   clear hc hp hmm
   have HQ:=hide hQ
   have b01:=BT.out
   have bq0:0≤x / 2 ^ m % 2∧x / 2 ^ m % 2≤1:=by omega
   have hE2:2*bval ds≤256 ^ (ds.length+1):=by rw [Int.pow_succ];omega
   have HE2:=hide hE2
   have AB:=hide (abits_step hx k hlt)
   clear b01 hE2 hQ
   go_wp2
   go_loopw [12,13] (fun q i wq=>∃ (t c:Int) (ys:List Int),i = .int .i64 t∧q = .int .i64 c ∧ -1≤t∧t < (ds.length:Int)+1∧(0≤c∧c≤1)∧DblTo rs ys ((ds.length:Int) - t).toNat (x / 2 ^ m % 2) c∧Blk wq w1.heap.size .u8 ys∧Blk wq w2.heap.size .u8 qs∧Own wq g1 a1 .u8 ds∧Below w.heap.size w wq) (fun _ i _=>(intOf i+1).toNat)
   case atStart =>
    refine ⟨(ds.length:Int),x / 2 ^ m % 2,rs,by simp,rfl,by omega,by omega,bq0,?_,bR,bQ,oD,hN⟩
    rw [show ((ds.length:Int) - (ds.length:Int)).toNat=0 by omega]
    exact DblTo.zero rb _ bq0
   case round =>
    obtain ⟨t,c,ys,rfl,rfl,ht0,ht1,hc,hD,yR,yQ,yD,yN⟩:=hrel
    clear bR bQ oD hN
    by_cases ht:0≤t
    ·obtain ⟨j, rfl⟩ := Int.eq_ofNat_of_zero_le ht
     obtain ⟨i,hi'⟩:∃ i:Nat,ds.length - j=i:=⟨_,rfl⟩
     rw [show ((ds.length:Int) - (j:Int)).toNat=i by omega] at hD
     have yl:=hD.1
     have il:i < rs.length:=by rw [rl.out];omega
     have R:=hide (hD.step rb il)
     have dy:=hD.2.2.2.2 i (Nat.le_refl _)
     have dg:dig ys i=ys.getD j 0:=by unfold dig;rw [if_pos (by omega),show ys.length - 1 - i=j by rw [yl,rl.out];omega]
     have cy:wr.cell? ⟨w1.heap.size,j,none⟩=some (.int .u8 (dig rs i)):=by rw [yR.cell (by rw [yl,rl.out];omega),← dg,dy]
     have fy:=yR.free j
     have rp:rs.length - 1 - i=j:=by rw [rl.out];omega
     rw [rp] at R
     have S:=yR.store j ((dig rs i*2+c) % 256)
     have Sq:=yQ.of_block (w':=wr.setCell ⟨w1.heap.size,j,none⟩ (.int .u8 ((dig rs i*2+c) % 256))) (heap_setCell_other wr ⟨w1.heap.size,j,none⟩ w2.heap.size _ (by show w2.heap.size≠w1.heap.size;omega))
     have Sd:=yD.only (Only.setCell wr w1.heap.size j (.int .u8 ((dig rs i*2+c) % 256))) (fun h=>by have:=l1 h;omega)
     have Sn:Below w.heap.size w (wr.setCell ⟨w1.heap.size,j,none⟩ (.int .u8 ((dig rs i*2+c) % 256))):=yN.setCell (by show w.heap.size≤w1.heap.size;omega) _
     have db2:=dig_byt rb i
     have e2:=and255 (dig rs i*2+c) (by omega) (by omega)
     have jl:(j:Int) < (ds.length:Int)+1:=by omega
     generalize dig rs i=y at *
     have m1:(y*2+c) % 256 % 256=(y*2+c) % 256:=by omega
     clear hD yR yQ yD yN yl dy dg il rp
     go_wp2
     go_roundw
     case rel=>exact ⟨(j:Int) - 1,_,_,rfl,rfl,by omega,by omega,⟨by omega,by omega⟩,by rw [show ((ds.length:Int) - ((j:Int) - 1)).toNat=i+1 by omega];exact R.out,S,Sq,Sd,Sn⟩
     case measure=>simp [intOf]
    ·obtain rfl : t = -1 := by omega
     rw [show ((ds.length:Int) - -1).toNat=ds.length+1 by omega] at hD
     have hD':DblTo rs ys rs.length (x / 2 ^ m % 2) c:=by rw [rl.out];exact hD
     have yv:=hD'.done rD bq0.2 (by rw [rl.out];exact HE2.out)
     have yb:=hD.2.1
     have YL:Hid (ys.length=ds.length+1):=by show _=_;rw [hD.1,rl.out]
     have YV:=hide yv
     clear hD hD' yv
     have CM:=l1Cmp_any wr w1.heap.size g1 (some ⟨w1.heap.size,0,none⟩) a1 (ds.length+1) c1 ys ds yR.own0.rd yD.rd yb db (by rw [YL.out];omega) (by omega)
     rw [YL.out] at CM
     have HCM:=hide CM
     clear CM
     go_wp2_with fail
     refine (unhide HCM).mono ?_
     rintro e wc ⟨rfl,rfl⟩
     have yv:=YV.out
     by_cases hge:bval ds≤bval ys
     ·have tg : decide (0 ≤ sg (bval ys) (bval ds)) = true := by unfold sg; simp; split <;> (try split) <;> omega
      generalize sg (bval ys) (bval ds)=sgn at *
      have YV2:=hide (And.intro yv hge)
      clear yv hge YV
      go_wp2
      go_loopw [15,16] (fun q i wq=>∃ (h:Nat) (c:Int) (vs:List Int),h≤ds.length+1∧i = .int .i64 h∧q = .int .i64 c∧(0≤c∧c≤1)∧SbTo ys ds vs h c∧Blk wq w1.heap.size .u8 vs∧Blk wq w2.heap.size .u8 qs∧Own wq g1 a1 .u8 ds∧Below w.heap.size w wq) (fun _ i _=>ds.length+1 - (intOf i).toNat)
      case atStart=>exact ⟨0,0,ys,Nat.zero_le _,rfl,rfl,⟨by omega,by omega⟩,⟨⟨rfl,yb,⟨by omega,by omega⟩,rfl⟩,fun _ _=>rfl⟩,yR,yQ,yD,yN⟩
      case round =>
       obtain ⟨h,c,vs,hh,rfl,rfl,hc,hS,vR,vQ,vD,vN⟩:=hrel
       clear yR yQ yD yN
       by_cases hhl:h < ds.length+1
       ·have vl := hS.1.1
        have il:h < ys.length:=by rw [YL.out];omega
        have R:=hide (hS.step il)
        have dy:=hS.2 h (Nat.le_refl _)
        obtain ⟨j,hj⟩:∃ j:Nat,ds.length - h=j:=⟨_,rfl⟩
        have dg:dig vs h=vs.getD j 0:=by unfold dig;rw [if_pos (by omega),show vs.length - 1 - h=j by rw [vl,YL.out];omega]
        have cv:wr.cell? ⟨w1.heap.size,j,none⟩=some (.int .u8 (dig ys h)):=by rw [vR.cell (by rw [vl,YL.out];omega),← dg,dy]
        have fv:=vR.free j
        have rp:ys.length - 1 - h=j:=by rw [YL.out];omega
        rw [rp] at R
        have S:=fun v=>vR.store j v
        have Sq:∀ n v,Blk ((wr.drewN n).setCell ⟨w1.heap.size,j,none⟩ v) w2.heap.size .u8 qs:=fun n v=>vQ.of_block (heap_setCell_other (wr.drewN n) ⟨w1.heap.size,j,none⟩ w2.heap.size _ (by show w2.heap.size≠w1.heap.size;omega))
        have Sd:∀ n v,Own ((wr.drewN n).setCell ⟨w1.heap.size,j,none⟩ v) g1 a1 .u8 ds:=fun n v=>(show Own (wr.drewN n) g1 a1 .u8 ds from vD).only (Only.setCell (wr.drewN n) w1.heap.size j v) (fun h=>by have:=l1 h;omega)
        have Sn:∀ n v,Below w.heap.size w ((wr.drewN n).setCell ⟨w1.heap.size,j,none⟩ v):=fun n v=>(below_drewN vN n).setCell (by show w.heap.size≤w1.heap.size;omega) v
        have LD:Hid (∀ n,Calls Tryz.prog 35 #[.slice a1 ds.length c1,.int .i64 (h:Int)] (wr.drewN n) fun e w'=>e = .returned (.int .i64 (dig ds h))∧w'=wr.drewN n):=by
         intro n
         have:=l1Digit_any (wr.drewN n) g1 a1 c1 ds (h:Int) (show Rd (wr.drewN n) g1 a1 .u8 ds from vD.rd) db (by omega) (by omega) (by omega)
         rwa [Int.toNat_natCast] at this
        have d1:=dig_byt yb h
        have d2:=dig_byt db h
        have j1:(ds.length:Int)+1 - 1 - (h:Int)=(j:Int):=by omega
        have j1':(ds.length:Int) - (h:Int)=(j:Int):=by omega
        have j2:(j:Int) < (ds.length:Int)+1:=by omega
        generalize dig ys h=y at *
        generalize dig ds h=d at *
        clear hS vR vQ vD vN vl dy dg il rp
        by_cases hv:y - d - c < 0
        ·have tv : decide (y - d - c < 0) = true := by simp; omega
         have m1:(y - d - c+256) % 256=y - d - c+256:=by omega
         go_wp2
         go_quiet ((go_at_call 35;refine ((unhide LD) _).mono ?_;rintro e w' ⟨rfl,rfl⟩;exact ⟨rfl,_,rfl⟩))
         go_wp2
         go_roundw
         case rel=>exact ⟨h+1,_,_,by omega,by go_num,rfl,⟨by omega,by omega⟩,R.out (y - d - c+256) 1 (by omega) (by omega) (by omega) ⟨by omega,by omega⟩,S _,Sq _ _,Sd _ _,Sn _ _⟩
         case measure=>simp [intOf];omega
        ·have tv : decide (y - d - c < 0) = false := by simp; omega
         have m1:(y - d - c) % 256=y - d - c:=by omega
         go_wp2
         go_quiet ((go_at_call 35;refine ((unhide LD) _).mono ?_;rintro e w' ⟨rfl,rfl⟩;exact ⟨rfl,_,rfl⟩))
         go_wp2
         go_roundw
         case rel=>exact ⟨h+1,_,_,by omega,by go_num,rfl,⟨by omega,by omega⟩,R.out (y - d - c) 0 (by omega) (by omega) (by omega) ⟨by omega,by omega⟩,S _,Sq _ _,Sd _ _,Sn _ _⟩
         case measure=>simp [intOf];omega
       ·obtain rfl : h = ds.length + 1 := by omega
        have hS':SubTo ys ds vs ys.length c:=by rw [YL.out];exact hS.1
        have vv:=hS'.done (by rw [YL.out];omega) YV2.out.2
        have vb:=hS.1.2.1
        have VL:Hid (vs.length=ds.length+1):=by show _=_;rw [hS.1.1,YL.out]
        have yv:=YV2.out.1
        have QN:=hide (HQ.out.on hlt)
        have q4:=HQ.out.2.2.2.1
        have qb:=HQ.out.2.1 p
        rw [HP.out.1,show 8 - k % 8=m+1 by have:=HP.out.2;omega] at q4
        rw [HP.out.1,HP.out.2] at QN
        have e3:=or_bit q4 qb.1 qb.2 p4
        have ql:=HQ.out.1
        have cq:=vQ.cell (i:=p) (by omega)
        have fq:=vQ.free p
        have S:=vQ.store p (qs.getD p 0+2 ^ m)
        have Sr:=vR.of_block (w':=wr.setCell ⟨w2.heap.size,p,none⟩ (.int .u8 (qs.getD p 0+2 ^ m))) (heap_setCell_other wr ⟨w2.heap.size,p,none⟩ w1.heap.size _ (by show w1.heap.size≠w2.heap.size;omega))
        have Sd:=vD.only (Only.setCell wr w2.heap.size p (.int .u8 (qs.getD p 0+2 ^ m))) (fun h=>by have:=l1 h;omega)
        have Sn:Below w.heap.size w (wr.setCell ⟨w2.heap.size,p,none⟩ (.int .u8 (qs.getD p 0+2 ^ m))):=vN.setCell (by show w.heap.size≤w2.heap.size;omega) _
        have E:Hid (abits xs (k+1)=(2*Q+1)*bval ds+bval vs):=by
         show _=_
         rw [AB.out,rE.out,BT.out,vv,yv,Int.add_mul,Int.mul_assoc]
         omega
        have lv:bval vs < bval ds:=by omega
        have pw8:(2:Int) ^ m < 256:=by
         have h1:2 ^ m≤128:=Nat.pow_le_pow_right (n:=2) (by decide) p4
         have h2:((2 ^ m:Nat):Int)≤((128:Nat):Int):=Int.ofNat_le.mpr h1
         rw [Int.natCast_pow] at h2
         exact Int.lt_of_le_of_lt h2 (by decide)
        generalize qs.getD p 0=qp at *
        clear hS hS' vR vQ vD vN q4 ql vv yv HQ
        go_wp2
        go_roundw
        case rel=>exact ⟨k+1,_,vs,_,by omega,by go_num,⟨VL,vb,lv,E⟩,QN.out,Sr,S,Sd,Sn⟩
        case measure=>simp [intOf];omega
     ·have tg : decide (0 ≤ sg (bval ys) (bval ds)) = false := by rw [sg_lt (by omega)]; decide
      generalize sg (bval ys) (bval ds)=sgn at *
      have QN:=hide (HQ.out.off hlt)
      have E:Hid (abits xs (k+1)=2*Q*bval ds+bval ys):=by
       show _=_
       rw [AB.out,rE.out,BT.out,yv,Int.mul_assoc]
       omega
      have lv:bval ys < bval ds:=by omega
      clear yv hge
      go_wp2
      go_roundw
      case rel=>exact ⟨k+1,_,ys,qs,by omega,by go_num,⟨YL,yb,lv,E⟩,QN.out,yR,yQ,yD,yN⟩
      case measure=>simp [intOf];omega
  ·obtain rfl : k = 8 * xs.length := by omega
   have hq:=hQ.2.2.1
   have qb:=hQ.2.1
   rw [Nat.sub_self,Int.pow_zero,Int.mul_one] at hq
   have e0:=rE.out
   rw [abits_all,← hq,DV.out] at e0
   have V:=hide (div_of e0 (bval_nonneg rb) (by have:=DV.out;omega))
   have QL:=hide hQ.1
   have hlast:decide ((xs.length:Int)*8 < (xs.length:Int)*8)=false:=by simp
   have kk:(((8*xs.length:Nat):Int))=(xs.length:Int)*8:=by omega
   have TQ:=l1Trim_any wr w2.heap.size (some ⟨w2.heap.size,0,none⟩) qs.length qs bQ.own0.rd qb (fun h=>by cases h) (Nat.le_refl _) (by rw [QL.out];omega)
   have TR:=fun w' (h:Below wr.heap.size wr w')=>l1Trim_any w' w1.heap.size (some ⟨w1.heap.size,0,none⟩) rs.length rs (bR.up h).own0.rd rb (fun h=>by cases h) (Nat.le_refl _) (by rw [rl.out];omega)
   rw [QL.out] at TQ
   rw [rl.out] at TR
   have HQ:=hide TQ
   have HR:=hide TR
   clear TQ TR hQ hq e0 rE
   rw [kk]
   go_wp2_with fail
   refine (unhide HQ).mono ?_
   rintro e w4 ⟨q4,C4,l4,⟨a4,c4,g4,rfl,o4,p41,p42,p43⟩,n4⟩
   go_wp2_with fail
   refine ((unhide HR) w4 n4).mono ?_
   rintro e w5 ⟨q5,C5,l5,⟨a5,c5,g5,rfl,o5,p51,p52,p53⟩,n5⟩
   have N5:=nxt (nxt hN n4) n5
   have z4:=n4.size
   have z5:=hN.size
   have o4a:=o4.up n5
   go_wp2
   go_ret2
   exact ⟨⟨q4,q5,a4,c4,g4,a5,c5,g5,rfl,by rw [← V.out.1];exact C4,by rw [← V.out.2];exact C5,⟨o4a,p41,p42,by omega⟩,⟨o5,p51,p52,by omega⟩,fun h=>by have:=o4.rd.lt h;omega⟩,N5⟩
def BRow (w:World) (B g:Nat) (a:Option Addr) (c:Nat) (ys:List Int) (v:Int):Prop:=Own w g a .u8 ys∧(a=none→c=0)∧ys.length≤c∧B≤g∧Canon ys v
theorem BRow.up {w w':World} {B g:Nat} {a:Option Addr} {c:Nat} {ys:List Int} {v:Int} (h:BRow w B g a c ys v) (n:Below w.heap.size w w'):BRow w' B g a c ys v:=⟨h.1.up n,h.2⟩
def NewB (B:Nat) (w':World) (e:Ending) (v:Int):Prop:=∃ (ys:List Int) (a:Option Addr) (c g:Nat),e = .returned (.slice a ys.length c)∧BRow w' B g a c ys v
set_option maxRecDepth 100000 in
set_option maxHeartbeats 1000000 in
theorem l1Mod_any (w:World) (g g':Nat) (a b:Option Addr) (ca cb:Nat) (xs us:List Int) (ha:Rd w g a .u8 xs) (hb:Rd w g' b .u8 us) (hx:Byt xs) (hu:Byt us) (hb0:b=none→cb=0) (hbc:us.length≤cb)
  (hn:xs.length≤4096) (hm:us.length≤4096) (h0:0 < bval us) :
  Calls Tryz.prog 37 #[.slice a xs.length ca,.slice b us.length cb] w fun e w'=>NewB w.heap.size w' e (bval xs % bval us)∧Below w.heap.size w w':=by
 go_enter Tryz.func37,Tryz.ntmps37
 go_wp2_with fail
 refine (l1Div_any w g g' a b ca cb xs us ha hb hx hu hb0 hbc hn hm h0).mono ?_
 rintro e w1 ⟨⟨qs,rs,a1,c1,g1,a2,c2,g2,rfl,C1,C2,R1,R2,_⟩,n1⟩
 go_wp2
 go_ret
 exact ⟨⟨rs,a2,c2,g2,rfl,R2.1,R2.2.1,R2.2.2.1,R2.2.2.2,C2⟩,n1⟩
theorem Canon.ge {ys:List Int} {v:Int} (h:Canon ys v) (h0:0 < ys.length):256 ^ (ys.length - 1)≤v:=by
 have e:=bval_lo ys (ys.length - 1)
 have b:=lo_bd h.1 (ys.length - 1)
 have d:dig ys (ys.length - 1)=ys.getD 0 0:=by unfold dig;rw [if_pos (by omega),show ys.length - 1 - (ys.length - 1)=0 by omega]
 have p:=h.1 0
 have q:=h.2.2 h0
 rw [hi_step,hi_past ys _ (by omega),d,h.2.1] at e
 have:1*256 ^ (ys.length - 1)≤(0*256+ys.getD 0 0)*256 ^ (ys.length - 1):=Int.mul_le_mul_of_nonneg_right (by omega) (by have:=p256_pos (ys.length - 1);omega)
 omega
theorem Canon.len {ys:List Int} {v:Int} {n:Nat} (h:Canon ys v) (hv:v < 256 ^ n):ys.length≤n:=by
 by_cases h0:n < ys.length
 ·have g := h.ge (by omega)
  have:(256:Int) ^ n≤256 ^ (ys.length - 1):=by
   rw [show ys.length - 1=n+(ys.length - 1 - n) by omega,Int.pow_add]
   have p:=p256_pos n
   have q:=p256_pos (ys.length - 1 - n)
   have:=Int.mul_le_mul_of_nonneg_left (show (1:Int)≤256 ^ (ys.length - 1 - n) by omega) (show (0:Int)≤256 ^ n by omega)
   omega
  omega
 ·omega
end Go.Proofs.YtnpolopcgmjmnaaGreatDoor
