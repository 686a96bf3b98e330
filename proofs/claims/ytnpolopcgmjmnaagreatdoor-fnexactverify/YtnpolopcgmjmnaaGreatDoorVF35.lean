import Derived.Test.YtnpolopcgmjmnaaGreatDoorVF34
namespace Go.Proofs.YtnpolopcgmjmnaaGreatDoor
set_option maxRecDepth 100000
open Go.RowKit
theorem and32767 (n:Int):bits .and .i64 n 32767=n % 32768:=by
 have h127:(BitVec.ofInt 64 32767).toNat=2 ^ 15 - 1:=by decide
 have key:(BitVec.ofInt 64 n &&& BitVec.ofInt 64 32767).toNat=(n % ((2 ^ 64:Nat):Int)).toNat % 2 ^ 15:=by
  rw [BitVec.toNat_and,BitVec.toNat_ofInt,h127,Nat.and_two_pow_sub_one_eq_mod]
 show IntKind.i64.wrap ((BitVec.ofInt 64 n &&& BitVec.ofInt 64 32767).toNat:Nat)=n % 32768
 rw [key,IntKind.wrap_i64]
 omega
theorem and255w (n:Int):bits .and .i64 n 255=n % 256:=by
 have h127:(BitVec.ofInt 64 255).toNat=2 ^ 8 - 1:=by decide
 have key:(BitVec.ofInt 64 n &&& BitVec.ofInt 64 255).toNat=(n % ((2 ^ 64:Nat):Int)).toNat % 2 ^ 8:=by
  rw [BitVec.toNat_and,BitVec.toNat_ofInt,h127,Nat.and_two_pow_sub_one_eq_mod]
 show IntKind.i64.wrap ((BitVec.ofInt 64 n &&& BitVec.ofInt 64 255).toNat:Nat)=n % 256
 rw [key,IntKind.wrap_i64]
 omega
def only (f:Nat→Int) (j:Nat):Int:=if j < 16 then f j else 0
theorem only_ls (f:Nat→Int):ls16 f=ls16 (only f) :=
 eq_of_getD (by rw [ls16_len,ls16_len]) (fun i hi=>by rw [ls16_len] at hi;rw [ls16_get _ hi,ls16_get _ hi,only,if_pos hi])
theorem only_s (f:Nat→Int):s16 (only f) 16=s16 f 16:=s16_congr 16 (fun _ hj=>if_pos hj)
theorem only_in {f:Nat→Int} (h:L16 f):In60 (only f):=fun j=>by
 unfold only
 by_cases hj:j < 16
 ·rw [if_pos hj];have:=h j hj;omega
 ·rw [if_neg hj];omega
theorem adj_in {q:Nat→Int} (h:L16 q) (hi:In60 q):In60 (adj q):=fun j=>by
 have h0:=h 0 (by omega)
 have h1:=h 15 (by omega)
 have h2:=hi j
 unfold adj
 split
 ·omega
 ·split <;> omega
theorem rb2_in {q:Nat→Int} (hi:In60 q):∀ k,In60 (rb2 q k)
  | 0=>hi
  | k + 1 => fun j => by
    have:=l16_bd (adj (rb2 q k)) j
    show _≤l16 (adj (rb2 q k)) j∧l16 (adj (rb2 q k)) j≤_
    omega
theorem adj_ls (q:Nat→Int):((ls16 q).set 15 (q 15 % 32768)).set 0 (q 0+19*(q 15 / 32768))=ls16 (adj q):=by
 refine eq_of_getD (by simp [ls16]) (fun i hi=>?_)
 have hi':i < 16:=by simpa [ls16] using hi
 rw [ls16_get _ hi']
 unfold adj
 by_cases e:i=0
 ·subst e
  rw [getD_set_self _ _ _ (by simp [ls16]),if_pos rfl]
 ·rw [getD_set_ne _ _ _ _ (by omega), if_neg e]
  by_cases e2:i=15
  ·subst e2
   rw [getD_set_self _ _ _ (by simp [ls16]),if_pos rfl]
  ·rw [getD_set_ne _ _ _ _ (by omega),ls16_get _ hi',if_neg e2]
theorem by_fin {V U:Int} (h:0≤V∧V < 57896044618658097711785492504343953926634992332820282019728792003956564819968∧V % PP=U % PP):(PP≤V→U % PP=V - PP∧V - PP < 57896044618658097711785492504343953926634992332820282019728792003956564819968)∧(V < PP→U % PP=V):=by
 obtain ⟨h1,h2,h3⟩:=h
 rw [← h3]
 show (57896044618658097711785492504343953926634992332820282019728792003956564819949≤V→V % 57896044618658097711785492504343953926634992332820282019728792003956564819949=V - 57896044618658097711785492504343953926634992332820282019728792003956564819949∧V - 57896044618658097711785492504343953926634992332820282019728792003956564819949 < 57896044618658097711785492504343953926634992332820282019728792003956564819968)∧(V < 57896044618658097711785492504343953926634992332820282019728792003956564819949→V % 57896044618658097711785492504343953926634992332820282019728792003956564819949=V)
 omega
theorem turn_tb (w:World) (G:Nat) (q:Nat→Int) (hB:Blk w G .u8 (fill (tb16 q) 32)) (QL:L16 q) :
  Calls Tryz.prog 52 #[.slice (some ⟨G,0,none⟩) 32 32] w fun e w'=>∃ ts,ts.length=32∧Byt ts∧bval ts=s16 q 16∧fill (tb16 q) 32=fill (byt (s16 q 16)) 32∧NewRow w.heap.size w' e .u8 ts∧Below w.heap.size w w':=by
 have h:=l1Turn_any w G (some ⟨G,0,none⟩) 32 (fill (tb16 q) 32) hB.own0.rd (tb16_byt QL) (by rw [fill_len];omega)
 rw [fill_len] at h
 refine h.mono ?_
 rintro e w' ⟨ts,TT,tb,nr,n⟩
 obtain ⟨tv,fe⟩:=tb16_turn TT tb
 exact ⟨ts,TT.1,tb,tv,fe,nr,n⟩
theorem sg_pos {x y:Int} (h:y≤x):decide (0≤sg x y)=true:=by unfold sg;simp;split <;> (try split) <;> omega
theorem sg_not {x y:Int} (h:¬ y≤x):decide (0≤sg x y)=false:=by rw [sg_lt (by omega)];decide
set_option maxRecDepth 100000 in
set_option maxHeartbeats 4000000 in
theorem l2Bytes_any (w : World) (f : Nat → Int) (hf : L16 f) :
  Calls Tryz.prog 33 #[ag16 f] w fun e w'=>NewRow w.heap.size w' e .u8 (fill (byt (s16 f 16 % PP)) 32)∧Below w.heap.size w w':=by
 show Calls Tryz.prog 33 #[.agg (a16 f)] w fun e w'=>NewRow w.heap.size w' e .u8 (fill (byt (s16 f 16 % PP)) 32)∧Below w.heap.size w w'
 rw [show a16 f=a16 (only f) by unfold a16;rw [only_ls f],← only_s f]
 have hin:=only_in hf
 have CK:=cry_ok hin
 have CI:In60 (cry (only f)):=it16_in hin 3
 generalize only f=f at *
 clear hf
 obtain ⟨i0,hi,hz0,hz1,hz2⟩:=info_parts Tryz.info5
 have B0:Blk (w.alloc (.cells (a16 f) 36)) w.heap.size .i64 (ls16 f):=blk16 w 36 f
 have n0:Below w.heap.size w (w.alloc (.cells (a16 f) 36)):=(Below.refl _ _).alloc (Nat.le_refl _) _
 obtain ⟨A,hA⟩:∃ A,A=a16 f:=⟨_,rfl⟩
 have HA:=hide hA
 rw [← hA] at B0 n0 ⊢
 clear hA
 go_enter Tryz.func33,Tryz.ntmps33
 go_upto_region 1 with fail
 generalize w.alloc (.cells A 36)=wa at *
 obtain ⟨t0,hB0⟩:=id B0
 go_upto_region 2 with (first
  | (refine wpList_load_row rfl 36 (.tmp 1) rfl w.heap.size rfl t0 (a16 f) (0,0) (.array 16 2) hB0 Go.Proofs.YtnpolopcgmjmnaaGreatDoor.u50 rfl (by rw [a16_size];exact i50) ?_)
  | (go_at_call 42;go_must (refine (l2Carry_any wa f hin).mono ?_;rintro r w2 ⟨rfl,n2⟩))
  | (refine wpList_store_row rfl 36 (.tmp 1) (.tmp 10) rfl w.heap.size (a16 (cry f)) rfl rfl t0 (a16 f) ((n2.block _ B0.lt).trans hB0) (by rw [a16_size];exact i50) (by rw [a16_size,a16_size]) (a16_one _) ?_))
 have G0:Blk (w2.setRow w.heap.size (a16 (cry f))) w.heap.size .i64 (ls16 (cry f)):=(B0.up n2).setRow
 have GN:=below_row (nxt n0 n2) (a16 (cry f)) (g:=w.heap.size) (Nat.le_refl _)
 generalize w2.setRow w.heap.size (a16 (cry f))=w3 at *
 clear B0 n0 n2 hB0 hin HA
 have V1:=CK.2
 have V2:=rb_two CK.1
 have VV:Hid (0≤s16 (rb2 (cry f) 2) 16∧s16 (rb2 (cry f) 2) 16 < 57896044618658097711785492504343953926634992332820282019728792003956564819968∧s16 (rb2 (cry f) 2) 16 % PP=s16 f 16 % PP):=⟨V2.1,V2.2.1,V2.2.2.trans V1⟩
 have CL:=CK.1
 clear CK V1 V2
 generalize ag16 (cry f)=V10
 generalize Value.agg (a16 f)=V9
 generalize hq0:cry f=q0 at *
 have HP:Hid (∃ v,v=s16 f 16 % PP):=⟨_,rfl⟩
 clear HP hq0
 go_wp2
 go_loopw [3] (fun i wr=>∃ (k:Nat),k≤2∧i = .int .i64 k∧Blk wr w.heap.size .i64 (ls16 (rb2 q0 k))∧Below w.heap.size w wr) (fun i _=>2 - (intOf i).toNat)
 case atStart=>exact ⟨0,by omega,rfl,G0,GN⟩
 case round =>
  clear G0 GN
  obtain ⟨k,hk,rfl,hB,hN⟩:=hrel
  by_cases hlt:k < 2
  ·have k2 : decide ((k : Int) < 2) = true := by simp; omega
   have hL:=rb2_ok CL k
   have hI:=rb2_in CI k
   obtain ⟨q,hq⟩:∃ q,q=rb2 q0 k:=⟨_,rfl⟩
   have hq':Hid (rb2 q0 (k+1)=rb q):=by show _=_;rw [hq];rfl
   rw [← hq] at hB hL hI
   clear hq
   have aI:=adj_in hL hI
   have cb:=fun j=>c16_bd (f:=adj q) (M:=17592454500000) (by omega) (fun j=>by have:=aI j;omega) j
   have c15:wr.cell? ⟨w.heap.size,15,none⟩=some (.int .i64 (q 15)):=by rw [hB.cell (i:=15) (by rw [ls16_len];omega),ls16_get _ (by omega)]
   have f15:=hB.free 15
   have S15:=hB.store 15 (q 15 % 32768)
   have c0:(wr.setCell ⟨w.heap.size,15,none⟩ (.int .i64 (q 15 % 32768))).cell? ⟨w.heap.size,0,none⟩=some (.int .i64 (q 0)):=by rw [S15.cell (i:=0) (by simp [ls16]),getD_set_ne _ _ _ _ (by omega),ls16_get _ (by omega)]
   have f0:=S15.free 0
   have S0:=S15.store 0 (q 0+19*(q 15 / 32768))
   rw [adj_ls] at S0
   have Sn:Below w.heap.size w ((wr.setCell ⟨w.heap.size,15,none⟩ (.int .i64 (q 15 % 32768))).setCell ⟨w.heap.size,0,none⟩ (.int .i64 (q 0+19*(q 15 / 32768)))):=(hN.setCell (Nat.le_refl _) _).setCell (Nat.le_refl _) _
   have l0:=hL 0 (by omega)
   have l15:=hL 15 (by omega)
   have m15:=and32767 (q 15)
   clear S15 hB hN hI
   have HL:=hide hL
   clear hL
   obtain ⟨x0,hx0⟩:∃ x,x=q 0:=⟨_,rfl⟩
   obtain ⟨x15,hx15⟩:∃ x,x=q 15:=⟨_,rfl⟩
   rw [← hx0,← hx15] at S0 Sn
   rw [← hx15] at c0 c15 l15 m15 f0
   rw [← hx0] at c0 l0
   clear hx0 hx15
   go_wp2
   generalize ((wr.setCell ⟨w.heap.size,15,none⟩ (.int .i64 (x15 % 32768))).setCell ⟨w.heap.size,0,none⟩ (.int .i64 (x0+19*(x15 / 32768))))=ws at *
   clear c0 c15 f0 f15 m15
   go_loopw [4,5] (fun c i wq=>∃ (j:Nat) (ys:List Int),j≤16∧i = .int .i64 j∧c = .int .i64 (c16 (adj q) j)∧Up16 (l16 (adj q)) (adj q) ys j∧Blk wq w.heap.size .i64 ys∧Below w.heap.size w wq) (fun _ i _=>16 - (intOf i).toNat)
   case atStart=>exact ⟨0,_,by omega,rfl,rfl,Up16.zero _ _,S0,Sn⟩
   case round =>
    clear S0 Sn
    obtain ⟨j,ys,hj,rfl,rfl,hU,hB,hN⟩:=hrel
    by_cases hjt:j < 16
    ·have R := hU.step hjt
     have hcy:=hB.cell (i:=j) (by rw [hU.1];exact hjt)
     rw [hU.2.2 j (Nat.le_refl _) hjt] at hcy
     have hfy:=hB.free j
     have j2:(j:Int) < 16:=by omega
     have cj:=cb j
     have qj:=aI j
     have S:=hB.store j (l16 (adj q) j)
     have Sn:Below w.heap.size w (wr.setCell ⟨w.heap.size,j,none⟩ (.int .i64 (l16 (adj q) j))):=hN.setCell (Nat.le_refl _) _
     have E1:l16 (adj q) j=(adj q j+c16 (adj q) j) % 65536:=by unfold l16;rw [Int.add_comm]
     have F:Hid (c16 (adj q) (j+1)=(adj q j+c16 (adj q) j) / 65536):=by show _=_;rw [c16,Int.add_comm]
     rw [E1] at R S Sn
     have m1:=and65535 (adj q j+c16 (adj q) j)
     clear hU hB hN cb aI E1
     generalize adj q j=z at *
     generalize c16 (adj q) j=c at *
     go_wp2
     go_roundw
     case rel=>exact ⟨j+1,_,by omega,by go_num,by rw [F.out],R,S,Sn⟩
     case measure=>simp [intOf];omega
    ·obtain rfl : j = 16 := by omega
     have hy:=hU.all
     subst hy
     clear hU cb aI
     go_wp2
     go_roundw
     case rel=>exact ⟨k+1,by omega,by go_num,by rw [hq'.out];exact hB,hN⟩
     case measure=>simp [intOf];omega
  ·obtain rfl : k = 2 := by omega
   have QL:=rb2_ok CL 2
   generalize rb2 q0 2=q at *
   clear CL CI
   have hlw:=hB.lt
   go_wp2_with (at_make;refine wpList_make_full _ rfl _ _ 22 rfl wr.heap.size 5 i0 (.int .u8 0) 1 Tryz.underlying22 hi hz0 hz1 .i64 .i64 _ _ 32 rfl rfl rfl rfl (by rw [hz2];omega) (by unfold maxLen;omega) (Nat.le_refl _) ?_;intro w5 hown hgrow)
   have hB5:=Blk.of_made hown
   have n5:Below wr.heap.size wr w5:=(Below.refl _ _).grown hgrow (Nat.le_refl _) (by simp)
   have B5:=hB.up n5
   have N5:=nxt hN n5
   clear hown hgrow hB hN n5
   obtain ⟨G,hG⟩:∃ G,G=wr.heap.size:=⟨_,rfl⟩
   rw [← hG] at hB5 hlw ⊢
   clear hG
   go_loopw [8] (fun i wq=>∃ (k:Nat) (ys:List Int),k≤16∧i = .int .i64 k∧FillTo (tb16 q) ys 32 (2*k)∧Blk wq w.heap.size .i64 (ls16 q)∧Blk wq G .u8 ys∧Below w.heap.size w wq) (fun i _=>16 - (intOf i).toNat)
   case atStart=>exact ⟨0,_,by omega,rfl,⟨by simp,fun j hj=>absurd hj (by omega)⟩,B5,hB5,N5⟩
   case round =>
    clear B5 hB5 N5
    obtain ⟨k,ys,hk,rfl,hF,hT,hB,hN⟩:=hrel
    by_cases hlt:k < 16
    ·have R := (hF.step (k := 2 * k) (by omega)).step (by omega)
     have T1:tb16 q (2*k)=q k % 256:=by unfold tb16;rw [if_pos (by omega),show 2*k / 2=k by omega]
     have T2:tb16 q (2*k+1)=q k / 256:=by unfold tb16;rw [if_neg (by omega),show (2*k+1) / 2=k by omega]
     rw [T1,T2] at R
     have bx:=QL k hlt
     have k2:(k:Int) < 16:=by omega
     have cq:wr.cell? ⟨w.heap.size,k,none⟩=some (.int .i64 (q k)):=by rw [hT.cell (i:=k) (by rw [ls16_len];exact hlt),ls16_get _ hlt]
     have hT1:=hT.keep (g':=G) (k:=2*k) (v := .int .u8 (q k % 256)) (by omega)
     have cq2:(wr.setCell ⟨G,2*k,none⟩ (.int .u8 (q k % 256))).cell? ⟨w.heap.size,k,none⟩=some (.int .i64 (q k)):=by rw [hT1.cell (i:=k) (by rw [ls16_len];exact hlt),ls16_get _ hlt]
     have cy:=hB.cell (i:=2*k) (by rw [hF.1];omega)
     have fy:=hB.free (2*k)
     have S1:=hB.store (2*k) (q k % 256)
     have cy2:=S1.cell (i:=2*k+1) (by rw [List.length_set,hF.1];omega)
     have fy2:=S1.free (2*k+1)
     have S2:=hide (S1.store (2*k+1) (q k / 256))
     have ST:=hide (hT1.keep (g':=G) (k:=2*k+1) (v := .int .u8 (q k / 256)) (by omega))
     have Sn:=hide (show Below w.heap.size w ((wr.setCell ⟨G,2*k,none⟩ (.int .u8 (q k % 256))).setCell ⟨G,2*k+1,none⟩ (.int .u8 (q k / 256))) from (hN.setCell (by show w.heap.size≤G;omega) _).setCell (by show w.heap.size≤G;omega) _)
     have RR:=hide R
     clear R S1 hT1 hT hB hN hF T1 T2
     generalize ys.getD (2*k) 0=y0 at *
     generalize (ys.set (2*k) (q k % 256)).getD (2*k+1) 0=y1 at *
     generalize q k=x at *
     have m1:=and255w x
     have v1:IntKind.u8.wrap (x % 256)=x % 256:=by rw [IntKind.wrap_u8];omega
     have v2:IntKind.u8.wrap (x / 256)=x / 256:=by rw [IntKind.wrap_u8];omega
     obtain ⟨p,hp⟩:∃ p:Nat,p=2*k:=⟨_,rfl⟩
     obtain ⟨m,hm⟩:∃ m:Nat,m=p+1:=⟨_,rfl⟩
     have p1:2*(k:Int)=(p:Int):=by omega
     have p2:IntKind.i64.wrap (p:Int)=(p:Int):=by rw [IntKind.wrap_i64];omega
     have p3:(p:Int) < 32:=by omega
     have q1:(p:Int)+1=(m:Int):=by omega
     have q2:IntKind.i64.wrap (m:Int)=(m:Int):=by rw [IntKind.wrap_i64];omega
     have q3:(m:Int) < 32:=by omega
     rw [← hp] at cy fy cq2 cy2 fy2 S2 ST Sn RR
     rw [← hm] at cy2 fy2 S2 ST Sn RR
     have E:Hid (m+1=2*(k+1)):=by show _=_;omega
     clear hp hm
     go_wp2
     go_roundw
     case rel=>exact ⟨k+1,_,by omega,by go_num,by rw [← E.out];exact RR.out,ST.out,S2.out,Sn.out⟩
     case measure=>simp [intOf];omega
    ·obtain rfl : k = 16 := by omega
     have hy:=FillTo.all (n:=32) hF
     subst hy
     clear hF hT
     have TU:=hide (fun w' (n:Below wr.heap.size wr w')=>turn_tb w' G q (hB.up n) QL)
     have HV:=hide (by_fin VV.out)
     clear VV
     generalize s16 q 16=X at *
     have zG:w.heap.size≤G:=Nat.le_of_lt hlw
     go_wp2_with fail
     refine (TU.out wr (Below.refl _ _)).mono ?_
     rintro e w6 ⟨ts,tl,tb,tv,fe,⟨a1,c1,g1,rfl,o1,_,_,_⟩,n6⟩
     have FE:=hide fe
     have TV:=hide tv
     have TL:=hide tl
     clear fe tv tl
     go_wp2_with fail
     refine (l2Prime_any w6).mono ?_
     rintro e w7 ⟨rfl,Bp,n7⟩
     go_wp2_with fail
     refine (l1Cmp_any w7 g1 _ a1 _ c1 32 ts pbytes (o1.rd.up n7) Bp.own0.rd tb pbytes_byt (by rw [TL.out];decide) (by decide)).mono ?_
     rintro e w8 ⟨rfl,rfl⟩
     have SP:=hide (fun h:PP≤X=>sg_pos h)
     have SM:=hide (fun h:¬ PP≤X=>sg_not h)
     rw [← pbytes_val,← TV.out] at SP SM
     have M:=nxt n6 n7
     clear n6 n7 Bp o1 tb
     generalize sg (bval ts) (bval pbytes)=sgn at *
     by_cases hc:bval pbytes≤bval ts
     ·have tg := SP.out hc
      rw [pbytes_val,TV.out] at hc
      have HC:=hide hc
      clear hc SP SM
      go_wp2_with fail
      refine (TU.out w8 M).mono ?_
      rintro e w9 ⟨us,ul,ub,uv,_,⟨a2,c2,g2,rfl,o2,_,_,_⟩,n9⟩
      have UV:=hide uv
      have UL:=hide ul
      clear uv ul
      go_wp2_with fail
      refine (l2Prime_any w9).mono ?_
      rintro e w10 ⟨rfl,Bq,n10⟩
      go_wp2_with fail
      refine (l1Sub_any w10 g2 _ a2 _ c2 32 us pbytes (o2.rd.up n10) Bq.own0.rd ub pbytes_byt (by rw [UL.out];decide) (by rw [UL.out];decide) (by rw [UV.out,pbytes_val];exact HC.out)).mono ?_
      rintro e w11 ⟨ys,C,⟨a3,c3,g3,rfl,o3,_,_,_⟩,n11⟩
      rw [UV.out,pbytes_val] at C
      have L:ys.length≤32:=C.len (Int.lt_trans (HV.out.1 HC.out).2 (by decide))
      have V:Hid (fill (dig ys) 32=fill (byt (s16 f 16 % PP)) 32):=by
       show _=_
       refine fill_congr (fun i _=>?_)
       rw [dig_of C.1,C.2.1,(HV.out.1 HC.out).1]
      have CB:=hide C.1
      clear C
      go_wp2_with fail
      refine (l1Little_any w11 g3 a3 c3 ys 32 o3.rd CB.out (Nat.le_trans L (by decide)) (by decide)).mono ?_
      rintro e w12 ⟨rfl,B12,n12⟩
      rw [V.out] at B12
      have K:=nxt (nxt (nxt (nxt (nxt hN M) n9) n10) n11) n12
      have zz:=(nxt (nxt (nxt (nxt hN M) n9) n10) n11).size
      clear o2 o3 Bq
      go_wp2
      go_ret
      exact ⟨⟨_,32,w11.heap.size,by rw [fill_len];rfl,B12.own0,by simp,by rw [fill_len];exact Nat.le_refl _,zz⟩,K⟩
     ·have tg := SM.out hc
      rw [pbytes_val,TV.out] at hc
      have V:=hide (HV.out.2 (Int.not_le.1 hc))
      clear hc SP SM
      have B8:=hB.up M
      rw [FE.out,← V.out] at B8
      go_wp2
      go_ret
      exact ⟨⟨_,32,G,by rw [fill_len];rfl,B8.own0,by simp,by rw [fill_len];exact Nat.le_refl _,zG⟩,nxt hN M⟩
end Go.Proofs.YtnpolopcgmjmnaaGreatDoor
