import Derived.Test.YtnpolopcgmjmnaaGreatDoorVF46
import Derived.BigRegion
namespace Go.Proofs.YtnpolopcgmjmnaaGreatDoor
set_option maxRecDepth 100000
open Go Go.RowKit
set_option maxHeartbeats 8000000 in
theorem behind_64 (w : World) (s : S8) (hs : Ok64 s) (b : Nat → Int) (hb : ∀ i, i < 16 → Wd64 (b i)) (hT : HasT w 12 kL) :
  Calls Tryz.prog 117 #[ag8 .u64 s,agw .u64 b] w fun e w'=>e = .returned (ag8 .u64 (blk64 s b))∧Below w.heap.size w w':=by
 have n0:Below w.heap.size w (w.alloc (.cells #[.int .u64 s.a,.int .u64 s.b,.int .u64 s.c,.int .u64 s.d,.int .u64 s.e,.int .u64 s.f,.int .u64 s.g,.int .u64 s.h] 128)):=(Below.refl _ _).alloc (Nat.le_refl _) _
 have B0:=blk_ag8 w .u64 128 s
 have z0:(w.alloc (.cells #[.int .u64 s.a,.int .u64 s.b,.int .u64 s.c,.int .u64 s.d,.int .u64 s.e,.int .u64 s.f,.int .u64 s.g,.int .u64 s.h] 128)).heap.size=w.heap.size+1:=by simp
 simp only [ag8,agw]
 go_enter Tryz.func117,Tryz.ntmps117
 go_wp2_with fail
 generalize w.alloc (.cells #[.int .u64 s.a,.int .u64 s.b,.int .u64 s.c,.int .u64 s.d,.int .u64 s.e,.int .u64 s.f,.int .u64 s.g,.int .u64 s.h] 128)=wa at *
 have n1:Below wa.heap.size wa (wa.alloc (.cells #[.int .u64 (b 0),.int .u64 (b 1),.int .u64 (b 2),.int .u64 (b 3),.int .u64 (b 4),.int .u64 (b 5),.int .u64 (b 6),.int .u64 (b 7),.int .u64 (b 8),.int .u64 (b 9),.int .u64 (b 10),.int .u64 (b 11),.int .u64 (b 12),.int .u64 (b 13),.int .u64 (b 14),.int .u64 (b 15)] 179)):=(Below.refl _ _).alloc (Nat.le_refl _) _
 have B1:=blk_agw wa .u64 179 b
 have z1:(wa.alloc (.cells #[.int .u64 (b 0),.int .u64 (b 1),.int .u64 (b 2),.int .u64 (b 3),.int .u64 (b 4),.int .u64 (b 5),.int .u64 (b 6),.int .u64 (b 7),.int .u64 (b 8),.int .u64 (b 9),.int .u64 (b 10),.int .u64 (b 11),.int .u64 (b 12),.int .u64 (b 13),.int .u64 (b 14),.int .u64 (b 15)] 179)).heap.size=wa.heap.size+1:=by simp
 generalize wa.alloc (.cells #[.int .u64 (b 0),.int .u64 (b 1),.int .u64 (b 2),.int .u64 (b 3),.int .u64 (b 4),.int .u64 (b 5),.int .u64 (b 6),.int .u64 (b 7),.int .u64 (b 8),.int .u64 (b 9),.int .u64 (b 10),.int .u64 (b 11),.int .u64 (b 12),.int .u64 (b 13),.int .u64 (b 14),.int .u64 (b 15)] 179)=wb at *
 have B0:=B0.up n1
 have N1:=nxt n0 n1
 rw [z0] at B1 z1
 clear n0 n1 z0
 have n2:Below wb.heap.size wb (wb.alloc (.cells #[.int .u64 0,.int .u64 0,.int .u64 0,.int .u64 0,.int .u64 0,.int .u64 0,.int .u64 0,.int .u64 0] 128)):=(Below.refl _ _).alloc (Nat.le_refl _) _
 have B2:=blk_ag8 wb .u64 128 ⟨0,0,0,0,0,0,0,0⟩
 have z2:(wb.alloc (.cells #[.int .u64 0,.int .u64 0,.int .u64 0,.int .u64 0,.int .u64 0,.int .u64 0,.int .u64 0,.int .u64 0] 128)).heap.size=wb.heap.size+1:=by simp
 simp only [] at B2
 generalize wb.alloc (.cells #[.int .u64 0,.int .u64 0,.int .u64 0,.int .u64 0,.int .u64 0,.int .u64 0,.int .u64 0,.int .u64 0] 128)=wc at *
 have B0:=B0.up n2
 have B1:=B1.up n2
 have N2:=nxt N1 n2
 rw [z1] at B2 z2
 clear n2 N1 z1
 have hT2:=hT.up N2
 obtain ⟨⟨c0,c1,c2,c3,c4,c5,c6,c7⟩,-⟩:=B0.f8
 go_quiet (fail)
 go_wp2_with fail
 refine (stepsOf_64 _).mono ?_
 rintro r wd ⟨rfl,rfl⟩
 have N2:=N2.trans (below_drewN (Below.refl _ _) nq)
 have B0:Blk (wc.drewN nq) w.heap.size .u64 s.l:=B0
 have B1:Blk (wc.drewN nq) (w.heap.size+1) .u64 (lsw b):=B1
 have B2:Blk (wc.drewN nq) (w.heap.size+1+1) .u64 (S8.l ⟨0,0,0,0,0,0,0,0⟩):=B2
 have hT2:HasT (wc.drewN nq) 12 kL:=hT2
 have z2:(wc.drewN nq).heap.size=w.heap.size+1+1+1:=z2
 generalize wc.drewN nq=wd at *
 clear c0 c1 c2 c3 c4 c5 c6 c7
 have gl:12 < w.heap.size:=block_lt_of_cell (hT 0 (by decide))
 clear hT
 have R0:=Roll.first64 (b:=b) (lsw_len b) (lsw_get b)
 go_wp2_with fail
 go_loopw [5,6,7,8,9,10,11,12,33] (fun va vb vc vd ve vf vg vh i wr=>∃ (n:Nat) (r:S8) (ys:List Int),n≤80∧i = .int .i64 n∧va = .int .u64 r.a∧vb = .int .u64 r.b∧vc = .int .u64 r.c∧vd = .int .u64 r.d∧ve = .int .u64 r.e∧vf = .int .u64 r.f∧vg = .int .u64 r.g∧vh = .int .u64 r.h∧Hid (r=rnds64 K64 (wS64 b) n s)∧Roll64 b ys (max n 16)∧Blk wr (w.heap.size+1) .u64 ys∧Blk wr w.heap.size .u64 s.l∧Blk wr (w.heap.size+1+1) .u64 (S8.l ⟨0,0,0,0,0,0,0,0⟩)∧HasT wr 12 kL∧Below w.heap.size w wr) (fun _ _ _ _ _ _ _ _ i _=>80 - (intOf i).toNat)
 case atStart=>exact ⟨0,s,lsw b,Nat.zero_le _,rfl,rfl,rfl,rfl,rfl,rfl,rfl,rfl,rfl,rfl,R0,B1,B0,B2,hT2,N2⟩
 case round =>
  obtain ⟨n,r,ys,hn,rfl,rfl,rfl,rfl,rfl,rfl,rfl,rfl,rfl,hr,hR,hB1,hB0,hB2,hT,hN⟩:=hrel
  clear B0 B1 B2 hT2 N2 R0 z2
  by_cases hlt:n < 80
  ·have ok : Ok64 r := by rw [hr.out]; exact rnds_ok64 hs n
   obtain ⟨oa,ob,oc,od,oe,of,og,oh⟩:=ok
   have hr':Hid (stp64 (K64 n) (wS64 b n) r=rnds64 K64 (wS64 b) (n+1) s):=by show _=_;rw [hr.out];rfl
   have G1:=fun w=>hide (greatMix1_64 w r.e oe)
   have G0:=fun w=>hide (greatMix0_64 w r.a oa)
   have CH:=fun w=>hide (choice_64 w r.e r.f r.g oe of og)
   have MJ:=fun w=>hide (majority_64 w r.a r.b r.c oa ob oc)
   have kl:=kL_lt ⟨n,by omega⟩
   have UB:∀ w,Hid (Calls Tryz.prog 96 #[.int .u64 (kL.getD n 0)] w fun e w'=>e = .returned (.int .u64 (K64 n))∧w'=w):=fun w=>upperBits_64 w (kL.getD n 0) kl.1 kl.2
   have wd:=wS_wd64 hb n
   have kd:=K_wd64 n hlt
   clear hr kl
   by_cases h16:16≤n
   ·have hR' := Roll.step64 (i := n) (by rw [Nat.max_eq_left h16] at hR; exact hR) h16
    have y2:=hR.2 (n - 2) (by omega) (by omega)
    have y15:=hR.2 (n - 15) (by omega) (by omega)
    have EX:=extend_64 wr (w.heap.size+1) n (n % 16) ((n - 2) % 16) ((n - 7) % 16) ((n - 15) % 16) (ys.getD (n % 16) 0) (ys.getD ((n - 2) % 16) 0) (ys.getD ((n - 7) % 16) 0) (ys.getD ((n - 15) % 16) 0)
     (by rw [IntKind.wrap_i64];omega) (by rw [IntKind.wrap_i64];omega) (by rw [IntKind.wrap_i64];omega) (by have:=tm16 n 0 (by omega);simpa using this) (tm16 n 2 (by omega)) (tm16 n 7 (by omega)) (tm16 n 15 (by omega)) (by omega) (by omega) (by omega) (by omega) (by rw [y2];exact wS_wd64 hb _) (by rw [y15];exact wS_wd64 hb _)
     (fun W h=>(hB1.up h).cell (by rw [hR.1];omega)) (fun W h=>(hB1.up h).cell (by rw [hR.1];omega)) (fun W h=>(hB1.up h).cell (by rw [hR.1];omega)) (fun W h=>(hB1.up h).cell (by rw [hR.1];omega)) (fun W h=>(hB1.up h).free _)
    generalize extv64 (ys.getD (n % 16) 0) (ys.getD ((n - 2) % 16) 0) (ys.getD ((n - 7) % 16) 0) (ys.getD ((n - 15) % 16) 0)=ev at *
    have EXH:=hide EX
    have h16':decide ((16:Int)≤(n:Int))=true:=by simp;omega
    clear EX y2 y15 hb
    go_wp2_with fail
    refine EXH.out.mono ?_
    rintro x wx ⟨rfl,w1,nb,rfl⟩
    have hl:=hB1.lt
    have B1:=(hB1.up nb).store (n % 16) ev
    have B0:=(hB0.up nb).of_block (w':=w1.setCell ⟨w.heap.size+1,n % 16,none⟩ (.int .u64 ev)) (heap_setCell_other _ ⟨w.heap.size+1,n % 16,none⟩ _ _ (by show w.heap.size≠w.heap.size+1;omega))
    have B2:=(hB2.up nb).of_block (w':=w1.setCell ⟨w.heap.size+1,n % 16,none⟩ (.int .u64 ev)) (heap_setCell_other _ ⟨w.heap.size+1,n % 16,none⟩ _ _ (by show w.heap.size+1+1≠w.heap.size+1;omega))
    have N:Below w.heap.size w (w1.setCell ⟨w.heap.size+1,n % 16,none⟩ (.int .u64 ev)):=(nxt hN nb).setCell (by show w.heap.size≤w.heap.size+1;omega) _
    have T1:=(hT.up nb).of_block (w':=w1.setCell ⟨w.heap.size+1,n % 16,none⟩ (.int .u64 ev)) (heap_setCell_other _ ⟨w.heap.size+1,n % 16,none⟩ _ _ (by show 12≠w.heap.size+1;omega))
    generalize w1.setCell ⟨w.heap.size+1,n % 16,none⟩ (.int .u64 ev)=wt at *
    have RR:Roll64 b (ys.set (n % 16) ev) (max (n+1) 16):=by rw [Nat.max_eq_left (by omega)];exact hR'
    generalize ys.set (n % 16) ev=ys' at *
    clear EXH hR hR' hB1 hB0 hB2 hT hN nb h16'
    have cb:=B1.cell (i:=n % 16) (by rw [RR.1];omega)
    rw [RR.2 n (by omega) (by omega)] at cb
    have ck:=T1 n (by show n < 80;omega)
    have p1:(n:Int) % 16=((n % 16:Nat):Int):=by omega
    have p2:((n % 16:Nat):Int) < 16:=by omega
    have p3:(n:Int) < 80:=by omega
    generalize n % 16=p at cb p1 p2
    clear h16
    go_wp2_with fail
    go_quiet ((first | (go_at_call 129;exact Calls.quiet_of (G1 _).out) | (go_at_call 130;exact Calls.quiet_of_same (CH _).out) | (go_at_call 96;exact Calls.quiet_of_same (UB _).out)))
    obtain ⟨t,ht⟩:∃ t,t=tS64 (K64 n) (wS64 b n) r:=⟨_,rfl⟩
    go_wp2_with fail
    have tv:IntKind.u64.wrap (IntKind.u64.wrap (IntKind.u64.wrap (IntKind.u64.wrap (r.h+gg164 r.e)+ch64 r.e r.f r.g)+K64 n)+wS64 b n)=t:=by simp only [wrap_u64e];rw [ht];unfold tS64;omega
    rw [tv]
    have HT:=hide ht
    clear tv ht cb ck p1 p2 p3 G1 CH UB kd wd
    refine (G0 _).out.mono ?_
    rintro x wx ⟨rfl,m1,rfl⟩
    go_wp2_with fail
    refine (MJ _).out.mono ?_
    rintro x wx ⟨rfl,rfl⟩
    go_wp2
    go_roundw
    case rel=>exact ⟨n+1,stp64 (K64 n) (wS64 b n) r,ys',by omega,by go_num,by congr 1;simp only [wrap_u64e];show _=(tS64 (K64 n) (wS64 b n) r+uS64 r) % 18446744073709551616;rw [← HT.out];unfold uS64;omega,rfl,rfl,rfl,by congr 1;simp only [wrap_u64e];show _=(r.d+tS64 (K64 n) (wS64 b n) r) % 18446744073709551616;rw [← HT.out],rfl,rfl,rfl,hr',RR,B1,B0,B2,T1,below_drewN N _⟩
    case measure=>simp [intOf];omega
   ·have RR : Roll64 b ys (max (n + 1) 16) := by rw [Nat.max_eq_right (by omega)]; rw [Nat.max_eq_right (by omega)] at hR; exact hR
    have h16':decide ((16:Int)≤(n:Int))=false:=by simp;omega
    have B1:=hB1
    have B0:=hB0
    have B2:=hB2
    have T1:=hT
    have N:=hN
    clear hR hB1 hB0 hB2 hT hN hb
    generalize ys=ys' at *
    generalize wr=wt at *
    have cb:=B1.cell (i:=n % 16) (by rw [RR.1];omega)
    rw [RR.2 n (by omega) (by omega)] at cb
    have ck:=T1 n (by show n < 80;omega)
    have p1:(n:Int) % 16=((n % 16:Nat):Int):=by omega
    have p2:((n % 16:Nat):Int) < 16:=by omega
    have p3:(n:Int) < 80:=by omega
    generalize n % 16=p at cb p1 p2
    clear h16
    go_wp2_with fail
    go_quiet ((first | (go_at_call 129;exact Calls.quiet_of (G1 _).out) | (go_at_call 130;exact Calls.quiet_of_same (CH _).out) | (go_at_call 96;exact Calls.quiet_of_same (UB _).out)))
    obtain ⟨t,ht⟩:∃ t,t=tS64 (K64 n) (wS64 b n) r:=⟨_,rfl⟩
    go_wp2_with fail
    have tv:IntKind.u64.wrap (IntKind.u64.wrap (IntKind.u64.wrap (IntKind.u64.wrap (r.h+gg164 r.e)+ch64 r.e r.f r.g)+K64 n)+wS64 b n)=t:=by simp only [wrap_u64e];rw [ht];unfold tS64;omega
    rw [tv]
    have HT:=hide ht
    clear tv ht cb ck p1 p2 p3 G1 CH UB kd wd
    refine (G0 _).out.mono ?_
    rintro x wx ⟨rfl,m1,rfl⟩
    go_wp2_with fail
    refine (MJ _).out.mono ?_
    rintro x wx ⟨rfl,rfl⟩
    go_wp2
    go_roundw
    case rel=>exact ⟨n+1,stp64 (K64 n) (wS64 b n) r,ys',by omega,by go_num,by congr 1;simp only [wrap_u64e];show _=(tS64 (K64 n) (wS64 b n) r+uS64 r) % 18446744073709551616;rw [← HT.out];unfold uS64;omega,rfl,rfl,rfl,by congr 1;simp only [wrap_u64e];show _=(r.d+tS64 (K64 n) (wS64 b n) r) % 18446744073709551616;rw [← HT.out],rfl,rfl,rfl,hr',RR,B1,B0,B2,T1,below_drewN N _⟩
    case measure=>simp [intOf];omega
  ·obtain rfl : n = 80 := by omega
   have K:Hid (blk64 s b=add64 s r):=by show _=_;rw [hr.out];rfl
   obtain ⟨⟨c0,c1,c2,c3,c4,c5,c6,c7⟩,-⟩:=hB0.f8
   obtain ⟨⟨d0,d1,d2,d3,d4,d5,d6,d7⟩,⟨f0,f1,f2,f3,f4,f5,f6,f7⟩⟩:=hB2.f8
   clear hr hR hB1 hB0 hB2 hT
   go_wp2
   refine bodyPost_ret (v:=ag8 .u64 (add64 s r)) (by simp [ag8,add64,results,wrap_u64e,  Tryz.results117,go_sem,d0,d1,d2,d3,d4,d5,d6,d7]) rfl ⟨by rw [K.out];rfl,?_⟩
   exact below_set8 hN (by omega) _ _ _ _ _ _ _ _
end Go.Proofs.YtnpolopcgmjmnaaGreatDoor
namespace Go.Proofs.YtnpolopcgmjmnaaGreatDoor
set_option maxRecDepth 100000
open Go Go.RowKit
set_option maxHeartbeats 4000000 in
theorem fillWords_64 (w : World) (q off n cw : Nat) (hZ : Seg w q off .u64 (List.replicate n 0)) (g : Nat) (a : Option Addr) (c : Nat) (xs : List Int) (hr : Rd w g a .u8 xs) (hb : Byt xs) (hl : xs.length = 8 * n) (h0 : 0 < n) (hn : n ≤ 16) (hg : g ≠ q) :
  Calls Tryz.prog 133 #[.slice (some ⟨q,off,none⟩) n cw,.slice a xs.length c] w fun e w'=>e = .returned (.tuple #[])∧∃ ys,(ys.length=n∧∀ j,j < n→ys.getD j 0=wd 8 xs j)∧Seg w' q off .u64 ys∧SegX q off n w w':=by
 obtain ⟨o2,rfl,hc⟩:=hr (by omega)
 rw [hl]
 have HL:=hide hl
 clear hl
 go_enter Tryz.func133,Tryz.ntmps133
 go_wp2_with fail
 refine (wordSize_64 w).mono ?_
 rintro r w1 ⟨rfl,rfl⟩
 go_wp2
 go_loopw [10] (fun i wr=>∃ (j:Nat) (ys:List Int),j≤8*n∧i = .int .i64 j∧FilW 8 xs n ys j∧Seg wr q off .u64 ys∧SegX q off n w1 wr) (fun i _=>8*n - (intOf i).toNat)
 case atStart=>exact ⟨0,_,Nat.zero_le _,rfl,FilW.zero 8 xs n,hZ,SegX.refl _ _ _ _⟩
 case round =>
  obtain ⟨j,ys,hj,rfl,hF,hS,hX⟩:=hrel
  by_cases hlt:j < 8*n
  ·have cx : wr.cell? ⟨g, o2 + j, none⟩ = some (.int .u8 (xs.getD j 0)) := by
    rw [World.cell?_of_block (a:=⟨g,o2+j,none⟩) (hX.only.block g hg)]
    exact hc j (by rw [HL.out];exact hlt)
   have hp:j / 8 < n:=by omega
   have R:=hF.step (by decide)
   have hh:=hF.here hp
   have hs:=hS (j / 8) (by rw [hF.1];exact hp)
   rw [hh] at hs
   have xb:=hb j
   have bl:=bw_lt (z:=8) hb (j / 8) (j % 8)
   have bl2:bw 8 xs (j / 8) (j % 8) < 72057594037927936:=by
    have:(256:Int) ^ (j % 8)≤256 ^ (8 - 1):=p256_leh (by omega)
    have e:(256:Int) ^ (8 - 1)=72057594037927936:=by decide
    omega
   have ov:=orb64 (bw 8 xs (j / 8) (j % 8)) (xs.getD j 0) bl.1 bl2 xb.1 xb.2
   rw [← wrap_u64e] at ov
   have S':=hS.store (j / 8) (by rw [hF.1];exact hp) (bw 8 xs (j / 8) (j % 8)*256+xs.getD j 0)
   have X':=hX.trans (SegX.set wr q off n (j / 8) hp (.int .u64 (bw 8 xs (j / 8) (j % 8)*256+xs.getD j 0)))
   obtain ⟨h1,h2⟩:=hs
   have d1:(j:Int) / 8=((j / 8:Nat):Int):=by omega
   have d2:((j / 8:Nat):Int) < (n:Int):=by omega
   have d3:(j:Int) < 8*(n:Int):=by omega
   clear hF hS hX hh bl hp
   generalize j / 8=p at *
   generalize bw 8 xs p (j % 8)=bv at *
   generalize xs.getD j 0=x at *
   obtain ⟨x0,x1⟩:=xb
   go_wp2_with fail
   go_region
   go_wp2
   go_roundw
   case rel=>exact ⟨j+1,_,by omega,by go_num,R,S',X'.drew⟩
   case measure=>simp [intOf];omega
  ·obtain rfl : j = 8 * n := by omega
   have K:=hide (hF.all (by decide))
   clear hF
   go_wp2
   exact bodyPost_end (v := .tuple #[]) (by simp [results,Tryz.results133,go_sem]) rfl ⟨rfl,ys,K.out,hS,hX⟩
theorem info16_64:(Tryz.prog.info? 179).map (·.size)=some 16:=by kernel_rfl
theorem und16_64:Tryz.prog.underlying 179=some (.array 16 65):=by kernel_rfl
set_option maxHeartbeats 4000000 in
theorem readBlock_64 (w:World) (g:Nat) (a:Option Addr) (c:Nat) (xs:List Int) (hr:Rd w g a .u8 xs) (hb:Byt xs) (hl:xs.length=128) :
  Calls Tryz.prog 118 #[.slice a 128 c] w fun e w'=>e = .returned (agw .u64 (wd 8 xs))∧Below w.heap.size w w':=by
 have n0:Below w.heap.size w (w.alloc (.cells #[.int .u64 0,.int .u64 0,.int .u64 0,.int .u64 0,.int .u64 0,.int .u64 0,.int .u64 0,.int .u64 0,.int .u64 0,.int .u64 0,.int .u64 0,.int .u64 0,.int .u64 0,.int .u64 0,.int .u64 0,.int .u64 0] 179)):=(Below.refl _ _).alloc (Nat.le_refl _) _
 have B0:=blk_agw w .u64 179 (fun _=>0)
 have z0:(w.alloc (.cells #[.int .u64 0,.int .u64 0,.int .u64 0,.int .u64 0,.int .u64 0,.int .u64 0,.int .u64 0,.int .u64 0,.int .u64 0,.int .u64 0,.int .u64 0,.int .u64 0,.int .u64 0,.int .u64 0,.int .u64 0,.int .u64 0] 179)).heap.size=w.heap.size+1:=by simp
 have gl:=hr.lt (by omega)
 have HL:=hide hl
 go_enter Tryz.func118,Tryz.ntmps118
 go_wp2_with fail
 generalize w.alloc (.cells #[.int .u64 0,.int .u64 0,.int .u64 0,.int .u64 0,.int .u64 0,.int .u64 0,.int .u64 0,.int .u64 0,.int .u64 0,.int .u64 0,.int .u64 0,.int .u64 0,.int .u64 0,.int .u64 0,.int .u64 0,.int .u64 0] 179)=wa at *
 have n1:Below wa.heap.size wa (wa.alloc (.cells #[.int .u64 0,.int .u64 0,.int .u64 0,.int .u64 0,.int .u64 0,.int .u64 0,.int .u64 0,.int .u64 0,.int .u64 0,.int .u64 0,.int .u64 0,.int .u64 0,.int .u64 0,.int .u64 0,.int .u64 0,.int .u64 0] 179)):=(Below.refl _ _).alloc (Nat.le_refl _) _
 have B1:=blk_agw wa .u64 179 (fun _=>0)
 have z1:(wa.alloc (.cells #[.int .u64 0,.int .u64 0,.int .u64 0,.int .u64 0,.int .u64 0,.int .u64 0,.int .u64 0,.int .u64 0,.int .u64 0,.int .u64 0,.int .u64 0,.int .u64 0,.int .u64 0,.int .u64 0,.int .u64 0,.int .u64 0] 179)).heap.size=wa.heap.size+1:=by simp
 generalize wa.alloc (.cells #[.int .u64 0,.int .u64 0,.int .u64 0,.int .u64 0,.int .u64 0,.int .u64 0,.int .u64 0,.int .u64 0,.int .u64 0,.int .u64 0,.int .u64 0,.int .u64 0,.int .u64 0,.int .u64 0,.int .u64 0,.int .u64 0] 179)=wb at *
 rw [z0] at B1 z1
 have B0:=B0.up n1
 have N1:=nxt n0 n1
 have FW:=fillWords_64 wb (w.heap.size+1) 0 16 16 (Seg.blk B1) g a c xs (hr.up N1) hb HL.out (by decide) (by decide) (by omega)
 rw [HL.out] at FW
 clear n0 n1 hl hr
 have FH:=hide FW
 clear FW
 refine FH.out.mono ?_
 rintro r w2 ⟨rfl,ys,⟨yl,yv⟩,S2,X2⟩
 obtain rfl:ys=lsw (wd 8 xs):=eq_of_getD (by rw [yl,lsw_len]) (fun i hi=>by rw [yl] at hi;rw [yv i hi,lsw_get _ _ hi])
 have B0:=B0.of_block (X2.only.block w.heap.size (by omega))
 have N2:Below w.heap.size w w2:=N1.trans (X2.only.below (by omega))
 have RG:=S2.range
 obtain ⟨t0,H0⟩:=B0
 have SR:=setRow_heap w2 w.heap.size _ ((lsw (wd 8 xs)).map (Value.int .u64)).toArray _ _ H0
 have SN:Below w.heap.size w (w2.setRow w.heap.size ((lsw (wd 8 xs)).map (Value.int .u64)).toArray):=N2.trans ⟨rfl,rfl,rfl,by simp,fun i hi=>setRow_other w2 _ i _ (by omega)⟩
 have V:Hid (agw .u64 (wd 8 xs) = .agg ((lsw (wd 8 xs)).map (Value.int .u64)).toArray):=rfl
 have L:Hid (((lsw (wd 8 xs)).map (Value.int .u64)).length=16):=by show _=_;rw [List.length_map];rfl
 have O:=one_ints .u64 (lsw (wd 8 xs))
 generalize (lsw (wd 8 xs)).map (Value.int .u64)=vs at *
 clear FH X2 S2 yl yv N1 N2 B1
 go_wp2_with (first
  | (refine wpList_load_mid rfl 179 (.tmp 3) rfl (w.heap.size+1) 0 rfl vs (.array 16 65) RG und16_64 rfl (by rw [L.out];exact info16_64) ?_)
  | (refine wpList_store_row rfl 179 (.tmp 2) (.tmp 7) rfl w.heap.size vs.toArray rfl rfl t0 _ H0 (by rw [List.size_toArray,L.out];exact info16_64) (by rw [List.size_toArray,List.size_toArray,L.out];rfl) O ?_))
 exact bodyPost_ret (v := .agg vs.toArray) (results_cell_row Tryz.results118 _ _ w.heap.size t0 vs.toArray (0,0) (.array 16 65) rfl SR und16_64 rfl (by rw [List.size_toArray,L.out];exact info16_64)) rfl ⟨by rw [V.out],SN⟩
set_option maxHeartbeats 4000000 in
theorem bytes_64 (w:World) (s:S8) (hs:Ok64 s) :
  Calls Tryz.prog 99 #[ag8 .u64 s] w fun e w'=>NewRow w.heap.size w' e .u8 (tell64 s)∧Below w.heap.size w w':=by
 obtain ⟨i0,hi,hz0,hz1,hz2⟩:=info_parts Tryz.info5
 have n0:Below w.heap.size w (w.alloc (.cells #[.int .u64 s.a,.int .u64 s.b,.int .u64 s.c,.int .u64 s.d,.int .u64 s.e,.int .u64 s.f,.int .u64 s.g,.int .u64 s.h] 128)):=(Below.refl _ _).alloc (Nat.le_refl _) _
 have B0:=blk_ag8 w .u64 128 s
 have z0:(w.alloc (.cells #[.int .u64 s.a,.int .u64 s.b,.int .u64 s.c,.int .u64 s.d,.int .u64 s.e,.int .u64 s.f,.int .u64 s.g,.int .u64 s.h] 128)).heap.size=w.heap.size+1:=by simp
 have TL:=hide (tell_len64 s)
 have TG:=fun i h=>hide (tell_get64 s i h)
 have SW:∀ p,p < 8→Wd64 (s.l.getD p 0):=by
  obtain ⟨h1,h2,h3,h4,h5,h6,h7,h8⟩:=hs
  intro p hp
  obtain rfl | rfl | rfl | rfl | rfl | rfl | rfl | rfl:p=0∨p=1∨p=2∨p=3∨p=4∨p=5∨p=6∨p=7:=by omega
  all_goals assumption
 simp only [ag8]
 go_enter Tryz.func99,Tryz.ntmps99
 go_wp2_with fail
 generalize w.alloc (.cells #[.int .u64 s.a,.int .u64 s.b,.int .u64 s.c,.int .u64 s.d,.int .u64 s.e,.int .u64 s.f,.int .u64 s.g,.int .u64 s.h] 128)=wa at *
 refine (wordSize_64 wa).mono ?_
 rintro r wa' ⟨rfl,rfl⟩
 go_wp2_with (at_make;refine wpList_make_full _ rfl _ _ 22 rfl wa'.heap.size 5 i0 (.int .u8 0) 1 Tryz.underlying22 hi hz0 hz1 .i64 .i64 _ _ 64 rfl rfl rfl rfl (by rw [hz2];decide) (by unfold maxLen;decide) (Nat.le_refl _) ?_;intro w5 hown hgrow)
 have hB0:=Blk.of_made hown
 have hN0:Below wa'.heap.size wa' w5:=(Below.refl _ _).grown hgrow (Nat.le_refl _) (by simp)
 have B0:=B0.up hN0
 have N:=nxt n0 hN0
 rw [z0] at hB0
 have CP:CopyTo (tell64 s) (List.replicate 64 0) 0:=⟨by rw [TL.out];simp,fun j h=>absurd h (by omega)⟩
 clear hown hgrow hN0 n0
 go_loopw [12] (fun i wr=>∃ (j:Nat) (ys:List Int),j≤64∧i = .int .i64 j∧CopyTo (tell64 s) ys j∧Blk wr (w.heap.size+1) .u8 ys∧Blk wr w.heap.size .u64 s.l∧Below w.heap.size w wr) (fun i _=>64 - (intOf i).toNat)
 case atStart=>exact ⟨0,_,Nat.zero_le _,rfl,CP,hB0,B0,N⟩
 case round =>
  obtain ⟨j,ys,hj,rfl,hC,hY,hS,hN⟩:=hrel
  clear CP hB0 B0 N
  by_cases hlt:j < 64
  ·have R := hC.step (by rw [TL.out]; exact hlt)
   have tg:=(TG j hlt).out
   have yl:ys.length=64:=hC.1.trans TL.out
   have cs:=hS.cell (i:=j / 8) (by rw [S8.l_len];omega)
   have cy:=hY.cell (i:=j) (by omega)
   have fy:=hY.free j
   have sw:=SW (j / 8) (by omega)
   have Y':=hY.store j ((tell64 s).getD j 0)
   have S':=hS.of_block (w':=wr.setCell ⟨w.heap.size+1,j,none⟩ (.int .u8 ((tell64 s).getD j 0))) (heap_setCell_other _ ⟨w.heap.size+1,j,none⟩ _ _ (by show w.heap.size≠w.heap.size+1;omega))
   have N':Below w.heap.size w (wr.setCell ⟨w.heap.size+1,j,none⟩ (.int .u8 ((tell64 s).getD j 0))):=hN.setCell (by show w.heap.size≤w.heap.size+1;omega) _
   rw [tg] at R Y' S' N'
   have d1:(j:Int) / 8=((j / 8:Nat):Int):=by omega
   have d2:((j / 8:Nat):Int) < 8:=by omega
   have d3:(j:Int) % 8=((j % 8:Nat):Int):=by omega
   have d4:(7:Int) - ((j % 8:Nat):Int)=((8 - 1 - j % 8:Nat):Int):=by omega
   have d5:8 - 1 - j % 8≤7:=by omega
   have d6:(j:Int) < 64:=by omega
   generalize ys.getD j 0=y0 at *
   generalize j / 8=p at *
   generalize s.l.getD p 0=v at *
   generalize 8 - 1 - j % 8=sh at *
   generalize j % 8=rm at *
   obtain ⟨v0,v1⟩:=sw
   clear hC hY hS hN tg TG SW yl
   go_wp2_with fail
   go_region
   go_wp2
   go_roundw
   case rel=>exact ⟨j+1,_,by omega,by go_num,R,Y'.drew,S'.drew,N'.drew⟩
   case measure=>simp [intOf];omega
  ·obtain rfl : j = 64 := by omega
   have K:=hide (show ys=tell64 s from CopyTo.all (by rw [TL.out];exact hC))
   clear hC
   go_wp2
   go_ret
   refine ⟨⟨_,64,w.heap.size+1,by rw [TL.out];rfl,?_,by simp,by rw [TL.out];exact Nat.le_refl _,by omega⟩,hN⟩
   rw [← K.out]
   exact hY.own0
end Go.Proofs.YtnpolopcgmjmnaaGreatDoor
namespace Go.Proofs.YtnpolopcgmjmnaaGreatDoor
set_option maxRecDepth 100000
open Go Go.RowKit
theorem infoH_64:(Tryz.prog.info? 131).map (·.size)=some 137:=by kernel_rfl
set_option maxHeartbeats 4000000 in
theorem restSize_64 (w:World) (L:Int) (C:S8) (R:List Int) (hl:R.length=128) (h0:0≤L) :
  Calls Tryz.prog 116 #[.agg (hcl .u64 L C R).toArray] w fun e w'=>e = .returned (.int .i64 (L % 128))∧Below w.heap.size w w':=by
 have n0:Below w.heap.size w (w.alloc (.cells (hcl .u64 L C R).toArray 131)):=(Below.refl _ _).alloc (Nat.le_refl _) _
 have H0:=HB.alloc .u64 w 131 L C hl
 generalize hv:hcl .u64 L C R=vs at *
 go_enter Tryz.func116,Tryz.ntmps116
 go_wp2_with fail
 generalize w.alloc (.cells vs.toArray 131)=wa at *
 have c0:=H0.c0
 go_quiet ((go_at_call 115;exact Calls.quiet_of_same (blockSize_64 _)))
 go_wp2
 go_ret
 exact ⟨rfl,below_drewN n0 _⟩
theorem undH_64:(Tryz.prog.underlying 131).map (·.isRow)=some true:=by kernel_rfl
abbrev zH64:Obj := .cells (List.toArray (.int .i64 0 :: .int .u64 0 :: .int .u64 0 :: .int .u64 0 :: .int .u64 0 :: .int .u64 0 :: .int .u64 0 :: .int .u64 0 :: .int .u64 0 :: .int .u8 0 :: .int .u8 0 :: .int .u8 0 :: .int .u8 0 :: .int .u8 0 :: .int .u8 0 :: .int .u8 0 :: .int .u8 0 :: .int .u8 0 :: .int .u8 0 :: .int .u8 0 :: .int .u8 0 :: .int .u8 0 :: .int .u8 0 :: .int .u8 0 :: .int .u8 0 :: .int .u8 0 :: .int .u8 0 :: .int .u8 0 :: .int .u8 0 :: .int .u8 0 :: .int .u8 0 :: .int .u8 0 :: .int .u8 0 :: .int .u8 0 :: .int .u8 0 :: .int .u8 0 :: .int .u8 0 :: .int .u8 0 :: .int .u8 0 :: .int .u8 0 :: .int .u8 0 :: .int .u8 0 :: .int .u8 0 :: .int .u8 0 :: .int .u8 0 :: .int .u8 0 :: .int .u8 0 :: .int .u8 0 :: .int .u8 0 :: .int .u8 0 :: .int .u8 0 :: .int .u8 0 :: .int .u8 0 :: .int .u8 0 :: .int .u8 0 :: .int .u8 0 :: .int .u8 0 :: .int .u8 0 :: .int .u8 0 :: .int .u8 0 :: .int .u8 0 :: .int .u8 0 :: .int .u8 0 :: .int .u8 0 :: .int .u8 0 :: .int .u8 0 :: .int .u8 0 :: .int .u8 0 :: .int .u8 0 :: .int .u8 0 :: .int .u8 0 :: .int .u8 0 :: .int .u8 0 :: .int .u8 0 :: .int .u8 0 :: .int .u8 0 :: .int .u8 0 :: .int .u8 0 :: .int .u8 0 :: .int .u8 0 :: .int .u8 0 :: .int .u8 0 :: .int .u8 0 :: .int .u8 0 :: .int .u8 0 :: .int .u8 0 :: .int .u8 0 :: .int .u8 0 :: .int .u8 0 :: .int .u8 0 :: .int .u8 0 :: .int .u8 0 :: .int .u8 0 :: .int .u8 0 :: .int .u8 0 :: .int .u8 0 :: .int .u8 0 :: .int .u8 0 :: .int .u8 0 :: .int .u8 0 :: .int .u8 0 :: .int .u8 0 :: .int .u8 0 :: .int .u8 0 :: .int .u8 0 :: .int .u8 0 :: .int .u8 0 :: .int .u8 0 :: .int .u8 0 :: .int .u8 0 :: .int .u8 0 :: .int .u8 0 :: .int .u8 0 :: .int .u8 0 :: .int .u8 0 :: .int .u8 0 :: .int .u8 0 :: .int .u8 0 :: .int .u8 0 :: .int .u8 0 :: .int .u8 0 :: .int .u8 0 :: .int .u8 0 :: .int .u8 0 :: .int .u8 0 :: .int .u8 0 :: .int .u8 0 :: .int .u8 0 :: .int .u8 0 :: .int .u8 0 :: .int .u8 0 :: .int .u8 0 :: .int .u8 0 :: .int .u8 0 :: .int .u8 0 :: .int .u8 0 :: .int .u8 0 :: [])) 131
set_option maxRecDepth 20000 in
theorem zeroH_64:(.int .i64 0 :: .int .u64 0 :: .int .u64 0 :: .int .u64 0 :: .int .u64 0 :: .int .u64 0 :: .int .u64 0 :: .int .u64 0 :: .int .u64 0 :: .int .u8 0 :: .int .u8 0 :: .int .u8 0 :: .int .u8 0 :: .int .u8 0 :: .int .u8 0 :: .int .u8 0 :: .int .u8 0 :: .int .u8 0 :: .int .u8 0 :: .int .u8 0 :: .int .u8 0 :: .int .u8 0 :: .int .u8 0 :: .int .u8 0 :: .int .u8 0 :: .int .u8 0 :: .int .u8 0 :: .int .u8 0 :: .int .u8 0 :: .int .u8 0 :: .int .u8 0 :: .int .u8 0 :: .int .u8 0 :: .int .u8 0 :: .int .u8 0 :: .int .u8 0 :: .int .u8 0 :: .int .u8 0 :: .int .u8 0 :: .int .u8 0 :: .int .u8 0 :: .int .u8 0 :: .int .u8 0 :: .int .u8 0 :: .int .u8 0 :: .int .u8 0 :: .int .u8 0 :: .int .u8 0 :: .int .u8 0 :: .int .u8 0 :: .int .u8 0 :: .int .u8 0 :: .int .u8 0 :: .int .u8 0 :: .int .u8 0 :: .int .u8 0 :: .int .u8 0 :: .int .u8 0 :: .int .u8 0 :: .int .u8 0 :: .int .u8 0 :: .int .u8 0 :: .int .u8 0 :: .int .u8 0 :: .int .u8 0 :: .int .u8 0 :: .int .u8 0 :: .int .u8 0 :: .int .u8 0 :: .int .u8 0 :: .int .u8 0 :: .int .u8 0 :: .int .u8 0 :: .int .u8 0 :: .int .u8 0 :: .int .u8 0 :: .int .u8 0 :: .int .u8 0 :: .int .u8 0 :: .int .u8 0 :: .int .u8 0 :: .int .u8 0 :: .int .u8 0 :: .int .u8 0 :: .int .u8 0 :: .int .u8 0 :: .int .u8 0 :: .int .u8 0 :: .int .u8 0 :: .int .u8 0 :: .int .u8 0 :: .int .u8 0 :: .int .u8 0 :: .int .u8 0 :: .int .u8 0 :: .int .u8 0 :: .int .u8 0 :: .int .u8 0 :: .int .u8 0 :: .int .u8 0 :: .int .u8 0 :: .int .u8 0 :: .int .u8 0 :: .int .u8 0 :: .int .u8 0 :: .int .u8 0 :: .int .u8 0 :: .int .u8 0 :: .int .u8 0 :: .int .u8 0 :: .int .u8 0 :: .int .u8 0 :: .int .u8 0 :: .int .u8 0 :: .int .u8 0 :: .int .u8 0 :: .int .u8 0 :: .int .u8 0 :: .int .u8 0 :: .int .u8 0 :: .int .u8 0 :: .int .u8 0 :: .int .u8 0 :: .int .u8 0 :: .int .u8 0 :: .int .u8 0 :: .int .u8 0 :: .int .u8 0 :: .int .u8 0 :: .int .u8 0 :: .int .u8 0 :: .int .u8 0 :: .int .u8 0 :: .int .u8 0 :: .int .u8 0 :: .int .u8 0 :: .int .u8 0 :: [])=hcl .u64 0 ⟨0,0,0,0,0,0,0,0⟩ (List.replicate 128 0):=by rw [zero137];kernel_rfl
theorem HB.zero64 (w:World):HB .u64 (w.alloc zH64) w.heap.size 0 ⟨0,0,0,0,0,0,0,0⟩ (List.replicate 128 0):=by
 unfold zH64
 rw [zeroH_64]
 exact HB.alloc _ _ _ _ _ (by simp)
theorem idx8_64 (n:Nat) (hn:n < 8) (W:World):(Instr.index 66 (.agg #[.int .u64 7640891576956012808,.int .u64 13503953896175478587,.int .u64 4354685564936845355,.int .u64 11912009170470909681,.int .u64 5840696475078001361,.int .u64 11170449401992604703,.int .u64 2270897969802886507,.int .u64 6620516959819538809]) (.int .i64 (n:Int))).run Tryz.prog W = .ok (.int .u64 (stLh.getD n 0)) W:=by
 obtain rfl | rfl | rfl | rfl | rfl | rfl | rfl | rfl:n=0∨n=1∨n=2∨n=3∨n=4∨n=5∨n=6∨n=7:=by omega
 all_goals kernel_rfl
theorem start_is64:∀ n:Fin 8,start64.l.getD n.val 0=stLh.getD n.val 0:=by decide +kernel
set_option maxRecDepth 20000 in
set_option maxHeartbeats 8000000 in
theorem newHashing_64 (w : World) (hT : HasT w 3 stLh) :
  Calls Tryz.prog 76 #[] w fun e w'=>e = .returned (.agg (hcl .u64 0 start64 (List.replicate 128 0)).toArray)∧Below w.heap.size w w':=by
 go_enter Tryz.func76,Tryz.ntmps76
 go_upto_region 1 with fail
 change Code.wp _ _ _ _ (w.alloc zH64)
 have n0:Below w.heap.size w (w.alloc zH64):=(Below.refl _ _).alloc (Nat.le_refl _) _
 have H0:=HB.zero64 w
 have z0:(w.alloc zH64).heap.size=w.heap.size+1:=by simp
 generalize w.alloc zH64=wa at *
 go_upto_region 2 with fail
 change Code.wp _ _ _ _ (wa.alloc zH64)
 have n1:Below wa.heap.size wa (wa.alloc zH64):=(Below.refl _ _).alloc (Nat.le_refl _) _
 have H1:=HB.zero64 wa
 have z1:(wa.alloc zH64).heap.size=wa.heap.size+1:=by simp
 generalize wa.alloc zH64=wb at *
 rw [z0] at H1 z1
 have H0:=H0.up n1
 have N:=nxt n0 n1
 have hT2:=hT.up N
 have c0:wb.cell? ⟨3,0,none⟩=some (.int .u64 7640891576956012808):=hT2 0 (by decide)
 have c1:wb.cell? ⟨3,1,none⟩=some (.int .u64 13503953896175478587):=hT2 1 (by decide)
 have c2:wb.cell? ⟨3,2,none⟩=some (.int .u64 4354685564936845355):=hT2 2 (by decide)
 have c3:wb.cell? ⟨3,3,none⟩=some (.int .u64 11912009170470909681):=hT2 3 (by decide)
 have c4:wb.cell? ⟨3,4,none⟩=some (.int .u64 5840696475078001361):=hT2 4 (by decide)
 have c5:wb.cell? ⟨3,5,none⟩=some (.int .u64 11170449401992604703):=hT2 5 (by decide)
 have c6:wb.cell? ⟨3,6,none⟩=some (.int .u64 2270897969802886507):=hT2 6 (by decide)
 have c7:wb.cell? ⟨3,7,none⟩=some (.int .u64 6620516959819538809):=hT2 7 (by decide)
 clear n0 n1 hT hT2
 go_wp2_with fail
 have Z1:Seg wb (w.heap.size+1) 1 .u64 (List.replicate 8 0):=H1.ch
 go_loopw [5] (fun i wr=>∃ (n:Nat) (ys:List Int),n≤8∧i = .int .i64 n∧ys.length=8∧(∀ j,j < n→ys.getD j 0=start64.l.getD j 0)∧Seg wr (w.heap.size+1) 1 .u64 ys∧SegX (w.heap.size+1) 1 8 wb wr) (fun i _=>8 - (intOf i).toNat)
 case atStart=>exact ⟨0,_,Nat.zero_le _,rfl,by simp,fun j h=>absurd h (by omega),Z1,SegX.refl _ _ _ _⟩
 case round =>
  obtain ⟨n,ys,hn,rfl,hy,hv,hS,hX⟩:=hrel
  clear c0 c1 c2 c3 c4 c5 c6 c7
  by_cases hlt:n < 8
  ·have sl := stL_lt ⟨n, hlt⟩
   have si:=start_is64 ⟨n,hlt⟩
   have UB:∀ w,Hid (Calls Tryz.prog 96 #[.int .u64 (stLh.getD n 0)] w fun e w'=>e = .returned (.int .u64 (start64.l.getD n 0))∧w'=w):=fun w=>by
    show Calls _ _ _ _ _
    rw [si]
    exact upperBits_64 w (stLh.getD n 0) sl.1 sl.2
   have S':=hS.store n (by omega) (start64.l.getD n 0)
   have X':=hX.trans (SegX.set wr (w.heap.size+1) 1 8 n hlt (.int .u64 (start64.l.getD n 0)))
   have V':∀ j,j < n+1→(ys.set n (start64.l.getD n 0)).getD j 0=start64.l.getD j 0:=by
    intro j hj
    by_cases e:n=j
    ·subst e
     rw [getD_set_self _ _ _ (by omega)]
    ·rw [getD_set_ne _ _ _ _ e]
     exact hv j (by omega)
   have L':(ys.set n (start64.l.getD n 0)).length=8:=by rw [List.length_set];exact hy
   obtain ⟨h1,h2⟩:=hS n (by omega)
   have IX:=fun W=>idx8_64 n hlt W
   have n8:(n:Int) < 8:=by omega
   generalize start64.l.getD n 0=sv at UB S' X' L' V' ⊢
   generalize stLh.getD n 0=su at UB IX
   have VH:=hide V'
   clear hS hX hv sl si hy V'
   generalize ys.getD n 0=y0 at h1
   go_wp2_with fail
   refine (UB _).out.mono ?_
   rintro x wx ⟨rfl,rfl⟩
   go_wp2
   go_roundw
   case rel=>exact ⟨n+1,_,by omega,by go_num,L',VH.out,S',X'⟩
   case measure=>simp [intOf];omega
  ·obtain rfl : n = 8 := by omega
   obtain rfl:ys=start64.l:=eq_of_getD (by rw [hy];rfl) (fun i hi=>hv i (by omega))
   have H1':=H1.of_seg hX hS
   have H0':=H0.of_block (hX.only.block w.heap.size (by omega))
   have N':Below w.heap.size w wr:=N.trans (hX.only.below (by omega))
   clear H1 H0 N hX hS hv hy
   have L1:=hcl_len .u64 0 start64 (R:=List.replicate 128 0) (by simp)
   have O1:=hcl_one .u64 0 start64 (List.replicate 128 0)
   have RG:=H1'.range
   have TH:=H0'.there
   have VH:Hid (∀ v,v=hcl .u64 0 start64 (List.replicate 128 0)→v.length=137∧(wr.setCells w.heap.size 0 v).rangeAt w.heap.size 0 v):=by
    rintro v rfl
    exact ⟨L1,World.rangeAt_setCells_same wr w.heap.size 0 _ (by rw [L1];exact TH)⟩
   have N2:∀ v,Below w.heap.size w (wr.setCells w.heap.size 0 v):=fun v=>N'.trans ((only_setCells wr w.heap.size v 0).below (Nat.le_refl _))
   generalize hvs:hcl .u64 0 start64 (List.replicate 128 0)=vs at *
   obtain ⟨d,hd,hrow⟩:∃ d,Tryz.prog.underlying 131=some d∧d.isRow=true:=by
    have h:=undH_64
    cases hq:Tryz.prog.underlying 131 with
    | none=>rw [hq] at h;simp at h
    | some d=>rw [hq] at h;exact ⟨d,rfl,by simpa using h⟩
   go_wp2_with (first
    | (refine wpList_load_mid rfl 131 (.tmp 1) rfl (w.heap.size+1) 0 rfl vs d RG hd hrow (by rw [L1];exact infoH_64) ?_)
    | (refine wpList_store_mid rfl 131 (.tmp 0) (.tmp 15) rfl w.heap.size 0 vs.toArray rfl rfl ?hth ?hin ?hon ?_))
   case hth=>show wr.there w.heap.size 0 vs.length;rw [L1];exact TH
   case hin=>show _=some vs.length;rw [L1];exact infoH_64
   case hon=>exact O1
   obtain ⟨-,RR⟩:=VH.out vs rfl
   exact bodyPost_ret (v := .agg vs.toArray) (results_cell_m Tryz.results76 _ _ w.heap.size vs d rfl RR hd hrow (by rw [L1];exact infoH_64)) rfl ⟨by rw [hvs],N2 vs⟩
end Go.Proofs.YtnpolopcgmjmnaaGreatDoor
namespace Go.Proofs.YtnpolopcgmjmnaaGreatDoor
set_option maxRecDepth 100000
open Go Go.RowKit
set_option maxHeartbeats 8000000 in
theorem take_64 (w : World) (q L : Nat) (C : S8) (R : List Int) (hH : HB .u64 w q (L : Int) C R) (hC : Ok64 C) (hR : Byt R) (g : Nat) (a : Option Addr) (c : Nat) (xs : List Int) (hr : Rd w g a .u8 xs) (hx : Byt xs) (hc : xs.length ≤ c)
  (hg:0 < xs.length→g≠q) (hL:L+xs.length≤1152921504606846976) (hT:HasT w 12 kL) (hq:12≠q) :
  Calls Tryz.prog 97 #[.pointer (some ⟨q,0,none⟩),.slice a xs.length c] w fun e w'=>e = .returned (.tuple #[])∧∃ R',HB .u64 w' q ((L+xs.length:Nat):Int) (whole64 C (R.take (L % 128) ++ xs)) R'∧Byt R'∧R'.take ((L+xs.length) % 128)=left64 (R.take (L % 128) ++ xs)∧Bth q w w':=by
 obtain ⟨Lt,hLt⟩:∃ n,n=L+xs.length:=⟨_,rfl⟩
 obtain ⟨Wt,hWt⟩:∃ s,s=whole64 C (R.take (L % 128) ++ xs):=⟨_,rfl⟩
 obtain ⟨Lf,hLf⟩:∃ l,l=left64 (R.take (L % 128) ++ xs):=⟨_,rfl⟩
 rw [← hLt,← hWt,← hLf]
 rw [← hLt] at hL
 have HLt:=hide hLt.symm
 have HWt:=hide hWt.symm
 have HLf:=hide hLf.symm
 clear hLt hWt hLf
 go_enter Tryz.func97,Tryz.ntmps97
 go_wp2_with fail
 go_quiet ((go_at_call 115;exact Calls.quiet_of_same (blockSize_64 _)))
 go_wp2_with fail
 have B0:Bth q w (w.drewN nq):=⟨rfl,rfl,rfl,Nat.le_refl _,fun _ _ _=>rfl⟩
 have H0:HB .u64 (w.drewN nq) q (L:Int) C R:=hH.of_block rfl
 have T0:HasT (w.drewN nq) 12 kL:=hT
 have R0:Rd (w.drewN nq) g a .u8 xs:=hr
 generalize w.drewN nq=w0 at *
 go_loopw [1] (fun v wr=>∃ (L1 c1:Nat) (C1:S8) (R1 xs1:List Int) (a1:Option Addr),v = .slice a1 xs1.length c1∧HB .u64 wr q (L1:Int) C1 R1∧Ok64 C1∧Byt R1∧Rd wr g a1 .u8 xs1∧Byt xs1∧xs1.length≤c1∧xs1.length≤xs.length∧Hid (L1+xs1.length=Lt)∧Hid (whole64 C1 (R1.take (L1 % 128) ++ xs1)=Wt)∧Hid (left64 (R1.take (L1 % 128) ++ xs1)=Lf)∧HasT wr 12 kL∧Bth q w wr) (fun v _=>vlen v)
 case atStart=>exact ⟨L,c,C,R,xs,a,rfl,H0,hC,hR,R0,hx,hc,Nat.le_refl _,HLt,HWt,HLf,T0,B0⟩
 case round =>
  obtain ⟨L1,c1,C1,R1,xs1,a1,rfl,hH1,hC1,hR1,hr1,hx1,hc1,hle,hL1,hW1,hF1,hT1,hB1⟩:=hrel
  clear H0 R0 T0 B0 hH hC hR hr hx hT HLt HWt HLf
  by_cases hlt:0 < xs1.length
  ·have hgq := hg (by omega)
   obtain ⟨o1,rfl,hcc⟩:=id hr1 hlt
   obtain ⟨r,er⟩:∃ r,r=L1 % 128:=⟨_,rfl⟩
   have rl:r < 128:=by omega
   have rz:(L1:Int) % 128=(r:Int):=by omega
   have rl2:(r:Int)≤128:=by omega
   have ER:=hide er
   clear er
   obtain ⟨n1,hn1⟩:∃ n,xs1.length=n:=⟨_,rfl⟩
   have l1:(0:Int) < (n1:Int):=by omega
   have RG:=hH1.range
   have RS:=restSize_64 wr (L1:Int) C1 R1 hH1.len (by omega)
   rw [rz] at RS
   have RSH:=hide RS
   have LH:=hide (hcl_len .u64 (L1:Int) C1 hH1.len)
   have RN:=hide hH1.len
   clear RS
   obtain ⟨d,hd,hrow⟩:∃ d,Tryz.prog.underlying 131=some d∧d.isRow=true:=by
    have h:=undH_64
    cases hq:Tryz.prog.underlying 131 with
    | none=>rw [hq] at h;simp at h
    | some d=>rw [hq] at h;exact ⟨d,rfl,by simpa using h⟩
   generalize hcl .u64 (L1:Int) C1 R1=vs at *
   rw [hn1]
   have HN:=hide hn1
   clear hn1
   go_wp2_with (refine wpList_load_mid rfl 131 (.tmp 16) rfl q 0 rfl vs d RG hd hrow (by rw [LH.out];exact infoH_64) ?_)
   refine RSH.out.mono ?_
   rintro x w2 ⟨rfl,n2⟩
   clear RSH
   go_wp2_with fail
   obtain ⟨t,ht⟩:∃ t,t=min (128 - r) n1:=⟨_,rfl⟩
   obtain ⟨tk,htk⟩:∃ l,l=xs1.take t:=⟨_,rfl⟩
   have tl:tk.length=t:=by rw [htk,List.length_take,HN.out];omega
   have H2:=hH1.up n2
   have hrun:=run_copy_cells (P:=Tryz.prog) w2 22 22 3 5 q (9+r) (128 - r) (128 - r) ⟨g,o1,none⟩ n1 c1 (tk.map (Value.int .u8)) und22h s5 (by rw [List.length_map,tl,ht];exact Nat.min_comm _ _)
    (fun j v hj=>by
     have hjl:j < tk.length:=by have:=(List.getElem?_eq_some_iff.1 hj).1;simpa using this
     have e:tk.getD j 0=xs1.getD j 0:=by rw [htk,List.getD_eq_getElem?_getD,List.getD_eq_getElem?_getD,List.getElem?_take,if_pos (by omega)]
     have hc':=(hr1.up n2) hlt
     obtain ⟨o',e',hcc'⟩:=hc'
     simp only [Option.some.injEq,Addr.mk.injEq,true_and,and_true] at e'
     subst e'
     rw [Addr.add_mid,hcc' j (by rw [HN.out];omega),← e]
     simpa [hjl] using hj)
    (fun j hj=>by
     rw [List.length_map,tl] at hj
     have:=H2.rs (r+j) (by rw [H2.len];omega)
     rw [show 9+(r+j)=9+r+j by omega] at this
     rw [this.1];rfl)
    (fun j hj=>by
     rw [List.length_map,tl] at hj
     have:=H2.rs (r+j) (by rw [H2.len];omega)
     rw [show 9+(r+j)=9+r+j by omega] at this
     exact this.2)
    (fun v hv=>by obtain ⟨x,_,rfl⟩:=List.mem_map.1 hv;rfl)
   rw [List.length_map,tl] at hrun
   have H3:=H2.setR r tk (by omega)
   have Q3:=only_setCells w2 q (tk.map (Value.int .u8)) (9+r)
   have B3:Bth q w (w2.setCells q (9+r) (tk.map (Value.int .u8))):=(hB1.trans (Bth.of_below n2)).trans (Bth.of_only Q3)
   have T3:HasT (w2.setCells q (9+r) (tk.map (Value.int .u8))) 12 kL:=(hT1.up n2).of_block (Q3.block _ hq)
   have r3:Rd (w2.setCells q (9+r) (tk.map (Value.int .u8))) g (some ⟨g,o1,none⟩) .u8 xs1:=(hr1.up n2).of_block (Q3.block _ hgq)
   have c3:=H3.c0
   have f3:=H3.f0
   have H4:=H3.setL ((L1:Int)+(t:Int))
   have Q4:=Only.setCell (w2.setCells q (9+r) (tk.map (Value.int .u8))) q 0 (.int .i64 ((L1:Int)+(t:Int)))
   have B4:=B3.trans (Bth.of_only Q4)
   have T4:=T3.of_block (Q4.block _ hq)
   have r4:=r3.of_block (Q4.block _ hgq)
   have t0:0 < t:=by omega
   have tn:t≤n1:=by omega
   have tr:r+t≤128:=by omega
   have tn':(t:Int)≤(n1:Int):=by omega
   have nc':(n1:Int)≤(c1:Int):=by have:=HN.out;omega
   have nb':(L1:Int)+(n1:Int)≤1152921504606846976:=by have:=hL1.out;have:=HN.out;omega
   have TT:Hid (t=min (128 - r) n1):=ht
   have TK:=hide htk
   have TL:=hide tl
   clear ht htk tl hH1 RG LH H2 H3 B3 T3 r3 Q3 Q4 hB1 hT1 hr1 hcc n2
   rw [hrun]
   clear hrun
   generalize w2.setCells q (9+r) (tk.map (Value.int .u8))=w3 at *
   have ly:=lay_byt (r:=r) hR1 (show Byt tk by rw [TK.out];exact byt_takeh hx1 t)
   have mk:Hid ((lay R1 r tk).take (r+t)=R1.take r ++ tk):=by show _=_;rw [← TL.out];exact take_more (by rw [RN.out];omega)
   have RG:=H4.range
   have L4:=H4.len
   have RS:=restSize_64 (w3.setCell ⟨q,0,none⟩ (.int .i64 ((L1:Int)+(t:Int)))) ((L1:Int)+(t:Int)) C1 (lay R1 r tk) L4 (by omega)
   have LH:=hide (hcl_len .u64 ((L1:Int)+(t:Int)) C1 L4)
   generalize hcl .u64 ((L1:Int)+(t:Int)) C1 (lay R1 r tk)=vs4 at *
   have RSH:=hide RS
   have L4H:=hide L4
   clear RS L4
   by_cases hct:c1=t
   ·have hct2 := hct.symm
    subst hct2
    go_wp2_with (refine wpList_load_mid rfl 131 (.tmp 34) rfl q 0 rfl vs4 d RG hd hrow (by rw [LH.out];exact infoH_64) ?_)
    generalize w3.setCell ⟨q,0,none⟩ (.int .i64 ((L1:Int)+(t:Int)))=w4 at *
    refine RSH.out.mono ?_
    rintro x w5 ⟨rfl,n5⟩
    have H5:=H4.up n5
    have B5:=B4.trans (Bth.of_below n5)
    have T5:=T4.up n5
    have r5:Rd w5 g (some ⟨g,o1,none⟩) .u8 (xs1.drop t):=by rw [List.drop_eq_nil_of_le (by have:=HN.out;omega)];exact Rd.nil _ _ _ _
    have dl:Hid ((xs1.drop t).length=n1 - t):=by show _=_;rw [List.length_drop,HN.out]
    clear RSH RG LH H4 B4 T4 r4 n5 c3 f3
    by_cases hf:r+t=128
    ·have z5 : ((L1 : Int) + (t : Int)) % 128 = 0 := by have := ER.out; omega
     have bl:((lay R1 r tk).take 128).length=128:=by rw [List.length_take,L4H.out];omega
     have bb:Byt ((lay R1 r tk).take 128):=byt_takeh ly _
     have be:(lay R1 r tk).take 128=R1.take r ++ tk:=by rw [← hf];exact mk.out
     have rb:∀ W,Below w5.heap.size w5 W→Rd W q (some ⟨q,9,none⟩) .u8 ((lay R1 r tk).take 128):=fun W n _=>⟨9,rfl,fun i hi=>by
      have h:=((H5.up n).rs i (by rw [L4H.out];omega)).1
      rw [List.getD_eq_getElem?_getD,List.getElem?_take,if_pos (by omega),← List.getD_eq_getElem?_getD]
      exact h⟩
     obtain ⟨C2,hC2⟩:∃ s,s=blk64 C1 (wd 8 ((lay R1 r tk).take 128)):=⟨_,rfl⟩
     have oC2:Ok64 C2:=by rw [hC2];exact blk_ok64 _ _
     have HC2:=hide hC2
     go_wp2_with fail
     refine region_put 10 9 7 47 45 _ (fun i=>[Fact.eq (.pointer (some ⟨q,0,none⟩)),Fact.eq (.pointer (some ⟨q,0,none⟩)),Fact.eq (.pointer (some ⟨q,0,none⟩)),Fact.eq (.pointer (some ⟨q,1,none⟩)),Fact.eq (ag8 .u64 C1),Fact.eq (.slice (some ⟨q,9,none⟩) 128 128),Fact.eq (agw .u64 (wd 8 ((lay R1 r tk).take 128))),Fact.eq (ag8 .u64 C2),Fact.eq (.pointer (some ⟨q,0,none⟩)),Fact.eq (.pointer (some ⟨q,1,none⟩))].getD i Fact.no) q 1 128 (C2.l.map (Value.int .u64)) (by kernel_rfl) (by kernel_rfl) rfl rfl rfl (by kernel_rfl) rfl (by kernel_rfl) rfl ?_ (by rw [List.length_map];kernel_rfl) (one_ints _ _) ?_ ?_
     ·intro W n j hj
      rw [List.length_map] at hj
      have h:=(H5.up n).ch j hj
      exact ⟨by rw [h.1];rfl,h.2⟩
     ·skip
      intro i hi
      obtain rfl | rfl | rfl | rfl | rfl | rfl | rfl | rfl | rfl | rfl:i=0∨i=1∨i=2∨i=3∨i=4∨i=5∨i=6∨i=7∨i=8∨i=9:=by omega
      ·refine step_pure rfl fun a w hb hw hf => ?_
       have e0:a.tmps[0]?.getD undef = .pointer (some ⟨q,0,none⟩):=gdv (hb.2.2 0 (by kernel_rfl))
       exact ⟨.pointer (some ⟨q,0,none⟩),by simp [go_sem,e0],rfl⟩
      ·refine step_pure rfl fun a w hb hw hf => ?_
       have e0:a.tmps[0]?.getD undef = .pointer (some ⟨q,0,none⟩):=gdv (hb.2.2 0 (by kernel_rfl))
       exact ⟨.pointer (some ⟨q,0,none⟩),by simp [go_sem,e0],rfl⟩
      ·refine step_pure rfl fun a w hb hw hf => ?_
       have e39:a.tmps[39]?.getD undef = .pointer (some ⟨q,0,none⟩):=gdv (hf 1 39 (by kernel_rfl))
       exact ⟨.pointer (some ⟨q,0,none⟩),by simp [go_sem,e39],rfl⟩
      ·refine step_pure rfl fun a w hb hw hf => ?_
       have e40:a.tmps[40]?.getD undef = .pointer (some ⟨q,0,none⟩):=gdv (hf 2 40 (by kernel_rfl))
       exact ⟨.pointer (some ⟨q,1,none⟩),by simp [go_sem,e40],rfl⟩
      ·refine step_load rfl 128 (.tmp 41) rfl (.array 8 65) 8 (by kernel_rfl) rfl (by kernel_rfl) fun a w hb hw hf=>⟨q,1,C1.l.map (Value.int .u64),hf 3 41 (by kernel_rfl),(H5.up hw).ch.range,by rw [List.length_map];rfl,rfl⟩
      ·refine step_pure rfl fun a w hb hw hf => ?_
       have e4:a.tmps[4]?.getD undef = .slice (some ⟨q,9,none⟩) 128 128:=gdv (hb.2.2 4 (by kernel_rfl))
       exact ⟨.slice (some ⟨q,9,none⟩) 128 128,by simp [go_sem,e4],rfl⟩
      ·refine step_callv rfl 118 _ _ rfl (by kernel_rfl) fun a w hb hw hf => ?_
       have e43:a.tmps.getD 43 undef = .slice (some ⟨q,9,none⟩) 128 128:=hf 5 43 (by kernel_rfl)
       show Calls Tryz.prog 118 #[a.tmps.getD 43 undef] w _
       rw [e43]
       exact (readBlock_64 w q (some ⟨q,9,none⟩) 128 _ (rb w hw) bb bl).mono (by rintro r w' ⟨rfl,n⟩;exact ⟨_,rfl,n,rfl⟩)
      ·refine step_callv rfl 117 _ _ rfl (by kernel_rfl) fun a w hb hw hf => ?_
       have e42:a.tmps.getD 42 undef=ag8 .u64 C1:=hf 4 42 (by kernel_rfl)
       have e44:a.tmps.getD 44 undef=agw .u64 (wd 8 ((lay R1 r tk).take 128)):=hf 6 44 (by kernel_rfl)
       show Calls Tryz.prog 117 #[a.tmps.getD 42 undef,a.tmps.getD 44 undef] w _
       rw [e42,e44]
       rw [HC2.out];exact (behind_64 w C1 hC1 _ (fun i _=>wd_64 bb i) (T5.up hw)).mono (by rintro r w' ⟨rfl,n⟩;exact ⟨_,rfl,n,rfl⟩)
      ·refine step_pure rfl fun a w hb hw hf => ?_
       have e38:a.tmps[38]?.getD undef = .pointer (some ⟨q,0,none⟩):=gdv (hf 0 38 (by kernel_rfl))
       exact ⟨.pointer (some ⟨q,0,none⟩),by simp [go_sem,e38],rfl⟩
      ·refine step_pure rfl fun a w hb hw hf => ?_
       have e46:a.tmps[46]?.getD undef = .pointer (some ⟨q,0,none⟩):=gdv (hf 8 46 (by kernel_rfl))
       exact ⟨.pointer (some ⟨q,1,none⟩),by simp [go_sem,e46],rfl⟩
     intro vs6 W n6
     have H6:=(H5.up n6).setC C2
     have Q6:=only_setCells W q (C2.l.map (Value.int .u64)) 1
     have B6:=(B5.trans (Bth.of_below n6)).trans (Bth.of_only Q6)
     have T6:=(T5.up n6).of_block (Q6.block _ hq)
     have r6:=(r5.up n6).of_block (Q6.block _ hgq)
     simp only [puts,Act.put,List.setIfInBounds_toArray,List.set_cons_succ,List.set_cons_zero]
     generalize W.setCells q 1 (C2.l.map (Value.int .u64))=w6 at *
     have lf:(L1+t) % 128=0:=by have:=ER.out;omega
     have whx:xs1=tk ++ xs1.drop t:=by rw [TK.out];exact (List.take_append_drop t xs1).symm
     have KW:Hid (whole64 C2 ((lay R1 r tk).take ((L1+t) % 128) ++ xs1.drop t)=Wt):=by
      show _=_
      rw [lf,List.take_zero,List.nil_append,← hW1.out,← ER.out]
      conv=>rhs;rw [whx,← List.append_assoc,← be,whole_app64 _ _ _ bl,← HC2.out]
     have KF:Hid (left64 ((lay R1 r tk).take ((L1+t) % 128) ++ xs1.drop t)=Lf):=by
      show _=_
      rw [lf,List.take_zero,List.nil_append,← hF1.out,← ER.out]
      conv=>rhs;rw [whx,← List.append_assoc,← be,left_app64 _ _ bl]
     clear mk bl bb be rb lf whx
     go_wp2
     go_roundw
     case rel=>exact ⟨L1+t,0,C2,lay R1 r tk,xs1.drop t,_,by rw [dl.out],by rw [Int.natCast_add];exact H6,oC2,ly,r6,byt_drop hx1 t,by rw [dl.out];have:=HN.out;omega,by rw [dl.out];have:=HN.out;omega,by show _=_;rw [dl.out];have:=hL1.out;have:=HN.out;omega,KW,KF,T6,B6⟩
     case measure=>simp only [vlen_slice];omega
    ·have z5 : (((L1 : Int) + (t : Int)) % 128 == 0) = false := by have := ER.out; simp; omega
     obtain rfl:t=n1:=by have:=TT.out;omega
     have lf:(L1+t) % 128=r+t:=by have:=ER.out;omega
     have dn:xs1.drop t=[]:=List.drop_eq_nil_of_le (by rw [HN.out];exact Nat.le_refl _)
     have tx:tk=xs1:=by rw [TK.out];exact List.take_of_length_le (by rw [HN.out];exact Nat.le_refl _)
     have KW:Hid (whole64 C1 ((lay R1 r tk).take ((L1+t) % 128) ++ xs1.drop t)=Wt):=by
      show _=_
      rw [lf,mk.out,dn,List.append_nil,tx,ER.out]
      exact hW1.out
     have KF:Hid (left64 ((lay R1 r tk).take ((L1+t) % 128) ++ xs1.drop t)=Lf):=by
      show _=_
      rw [lf,mk.out,dn,List.append_nil,tx,ER.out]
      exact hF1.out
     clear mk lf dn tx
     go_wp2
     go_roundw
     case rel=>exact ⟨L1+t,0,C1,lay R1 r tk,xs1.drop t,_,by rw [dl.out,Nat.sub_self],by rw [Int.natCast_add];exact H5,hC1,ly,r5,byt_drop hx1 t,by rw [dl.out];have:=HN.out;omega,by rw [dl.out];have:=HN.out;omega,by show _=_;rw [dl.out];have:=hL1.out;have:=HN.out;omega,KW,KF,T5,B5⟩
     case measure=>simp only [vlen_slice];omega
   ·have hct' : ¬ ((c1 : Int) = (t : Int)) := by omega
    go_wp2_with (refine wpList_load_mid rfl 131 (.tmp 34) rfl q 0 rfl vs4 d RG hd hrow (by rw [LH.out];exact infoH_64) ?_)
    generalize w3.setCell ⟨q,0,none⟩ (.int .i64 ((L1:Int)+(t:Int)))=w4 at *
    refine RSH.out.mono ?_
    rintro x w5 ⟨rfl,n5⟩
    have H5:=H4.up n5
    have B5:=B4.trans (Bth.of_below n5)
    have T5:=T4.up n5
    have r5:Rd w5 g (some ⟨g,o1+t,none⟩) .u8 (xs1.drop t):=rd_drop (t:=t) (r4.up n5)
    have dl:Hid ((xs1.drop t).length=n1 - t):=by show _=_;rw [List.length_drop,HN.out]
    clear RSH RG LH H4 B4 T4 r4 n5 c3 f3
    by_cases hf:r+t=128
    ·have z5 : ((L1 : Int) + (t : Int)) % 128 = 0 := by have := ER.out; omega
     have bl:((lay R1 r tk).take 128).length=128:=by rw [List.length_take,L4H.out];omega
     have bb:Byt ((lay R1 r tk).take 128):=byt_takeh ly _
     have be:(lay R1 r tk).take 128=R1.take r ++ tk:=by rw [← hf];exact mk.out
     have rb:∀ W,Below w5.heap.size w5 W→Rd W q (some ⟨q,9,none⟩) .u8 ((lay R1 r tk).take 128):=fun W n _=>⟨9,rfl,fun i hi=>by
      have h:=((H5.up n).rs i (by rw [L4H.out];omega)).1
      rw [List.getD_eq_getElem?_getD,List.getElem?_take,if_pos (by omega),← List.getD_eq_getElem?_getD]
      exact h⟩
     obtain ⟨C2,hC2⟩:∃ s,s=blk64 C1 (wd 8 ((lay R1 r tk).take 128)):=⟨_,rfl⟩
     have oC2:Ok64 C2:=by rw [hC2];exact blk_ok64 _ _
     have HC2:=hide hC2
     go_wp2_with fail
     refine region_put 10 9 7 47 45 _ (fun i=>[Fact.eq (.pointer (some ⟨q,0,none⟩)),Fact.eq (.pointer (some ⟨q,0,none⟩)),Fact.eq (.pointer (some ⟨q,0,none⟩)),Fact.eq (.pointer (some ⟨q,1,none⟩)),Fact.eq (ag8 .u64 C1),Fact.eq (.slice (some ⟨q,9,none⟩) 128 128),Fact.eq (agw .u64 (wd 8 ((lay R1 r tk).take 128))),Fact.eq (ag8 .u64 C2),Fact.eq (.pointer (some ⟨q,0,none⟩)),Fact.eq (.pointer (some ⟨q,1,none⟩))].getD i Fact.no) q 1 128 (C2.l.map (Value.int .u64)) (by kernel_rfl) (by kernel_rfl) rfl rfl rfl (by kernel_rfl) rfl (by kernel_rfl) rfl ?_ (by rw [List.length_map];kernel_rfl) (one_ints _ _) ?_ ?_
     ·intro W n j hj
      rw [List.length_map] at hj
      have h:=(H5.up n).ch j hj
      exact ⟨by rw [h.1];rfl,h.2⟩
     ·skip
      intro i hi
      obtain rfl | rfl | rfl | rfl | rfl | rfl | rfl | rfl | rfl | rfl:i=0∨i=1∨i=2∨i=3∨i=4∨i=5∨i=6∨i=7∨i=8∨i=9:=by omega
      ·refine step_pure rfl fun a w hb hw hf => ?_
       have e0:a.tmps[0]?.getD undef = .pointer (some ⟨q,0,none⟩):=gdv (hb.2.2 0 (by kernel_rfl))
       exact ⟨.pointer (some ⟨q,0,none⟩),by simp [go_sem,e0],rfl⟩
      ·refine step_pure rfl fun a w hb hw hf => ?_
       have e0:a.tmps[0]?.getD undef = .pointer (some ⟨q,0,none⟩):=gdv (hb.2.2 0 (by kernel_rfl))
       exact ⟨.pointer (some ⟨q,0,none⟩),by simp [go_sem,e0],rfl⟩
      ·refine step_pure rfl fun a w hb hw hf => ?_
       have e39:a.tmps[39]?.getD undef = .pointer (some ⟨q,0,none⟩):=gdv (hf 1 39 (by kernel_rfl))
       exact ⟨.pointer (some ⟨q,0,none⟩),by simp [go_sem,e39],rfl⟩
      ·refine step_pure rfl fun a w hb hw hf => ?_
       have e40:a.tmps[40]?.getD undef = .pointer (some ⟨q,0,none⟩):=gdv (hf 2 40 (by kernel_rfl))
       exact ⟨.pointer (some ⟨q,1,none⟩),by simp [go_sem,e40],rfl⟩
      ·refine step_load rfl 128 (.tmp 41) rfl (.array 8 65) 8 (by kernel_rfl) rfl (by kernel_rfl) fun a w hb hw hf=>⟨q,1,C1.l.map (Value.int .u64),hf 3 41 (by kernel_rfl),(H5.up hw).ch.range,by rw [List.length_map];rfl,rfl⟩
      ·refine step_pure rfl fun a w hb hw hf => ?_
       have e4:a.tmps[4]?.getD undef = .slice (some ⟨q,9,none⟩) 128 128:=gdv (hb.2.2 4 (by kernel_rfl))
       exact ⟨.slice (some ⟨q,9,none⟩) 128 128,by simp [go_sem,e4],rfl⟩
      ·refine step_callv rfl 118 _ _ rfl (by kernel_rfl) fun a w hb hw hf => ?_
       have e43:a.tmps.getD 43 undef = .slice (some ⟨q,9,none⟩) 128 128:=hf 5 43 (by kernel_rfl)
       show Calls Tryz.prog 118 #[a.tmps.getD 43 undef] w _
       rw [e43]
       exact (readBlock_64 w q (some ⟨q,9,none⟩) 128 _ (rb w hw) bb bl).mono (by rintro r w' ⟨rfl,n⟩;exact ⟨_,rfl,n,rfl⟩)
      ·refine step_callv rfl 117 _ _ rfl (by kernel_rfl) fun a w hb hw hf => ?_
       have e42:a.tmps.getD 42 undef=ag8 .u64 C1:=hf 4 42 (by kernel_rfl)
       have e44:a.tmps.getD 44 undef=agw .u64 (wd 8 ((lay R1 r tk).take 128)):=hf 6 44 (by kernel_rfl)
       show Calls Tryz.prog 117 #[a.tmps.getD 42 undef,a.tmps.getD 44 undef] w _
       rw [e42,e44]
       rw [HC2.out];exact (behind_64 w C1 hC1 _ (fun i _=>wd_64 bb i) (T5.up hw)).mono (by rintro r w' ⟨rfl,n⟩;exact ⟨_,rfl,n,rfl⟩)
      ·refine step_pure rfl fun a w hb hw hf => ?_
       have e38:a.tmps[38]?.getD undef = .pointer (some ⟨q,0,none⟩):=gdv (hf 0 38 (by kernel_rfl))
       exact ⟨.pointer (some ⟨q,0,none⟩),by simp [go_sem,e38],rfl⟩
      ·refine step_pure rfl fun a w hb hw hf => ?_
       have e46:a.tmps[46]?.getD undef = .pointer (some ⟨q,0,none⟩):=gdv (hf 8 46 (by kernel_rfl))
       exact ⟨.pointer (some ⟨q,1,none⟩),by simp [go_sem,e46],rfl⟩
     intro vs6 W n6
     have H6:=(H5.up n6).setC C2
     have Q6:=only_setCells W q (C2.l.map (Value.int .u64)) 1
     have B6:=(B5.trans (Bth.of_below n6)).trans (Bth.of_only Q6)
     have T6:=(T5.up n6).of_block (Q6.block _ hq)
     have r6:=(r5.up n6).of_block (Q6.block _ hgq)
     simp only [puts,Act.put,List.setIfInBounds_toArray,List.set_cons_succ,List.set_cons_zero]
     generalize W.setCells q 1 (C2.l.map (Value.int .u64))=w6 at *
     have lf:(L1+t) % 128=0:=by have:=ER.out;omega
     have whx:xs1=tk ++ xs1.drop t:=by rw [TK.out];exact (List.take_append_drop t xs1).symm
     have KW:Hid (whole64 C2 ((lay R1 r tk).take ((L1+t) % 128) ++ xs1.drop t)=Wt):=by
      show _=_
      rw [lf,List.take_zero,List.nil_append,← hW1.out,← ER.out]
      conv=>rhs;rw [whx,← List.append_assoc,← be,whole_app64 _ _ _ bl,← HC2.out]
     have KF:Hid (left64 ((lay R1 r tk).take ((L1+t) % 128) ++ xs1.drop t)=Lf):=by
      show _=_
      rw [lf,List.take_zero,List.nil_append,← hF1.out,← ER.out]
      conv=>rhs;rw [whx,← List.append_assoc,← be,left_app64 _ _ bl]
     clear mk bl bb be rb lf whx
     go_wp2
     go_roundw
     case rel=>exact ⟨L1+t,c1 - t,C2,lay R1 r tk,xs1.drop t,_,by rw [dl.out],by rw [Int.natCast_add];exact H6,oC2,ly,r6,byt_drop hx1 t,by rw [dl.out];have:=HN.out;omega,by rw [dl.out];have:=HN.out;omega,by show _=_;rw [dl.out];have:=hL1.out;have:=HN.out;omega,KW,KF,T6,B6⟩
     case measure=>simp only [vlen_slice];omega
    ·have z5 : (((L1 : Int) + (t : Int)) % 128 == 0) = false := by have := ER.out; simp; omega
     obtain rfl:t=n1:=by have:=TT.out;omega
     have lf:(L1+t) % 128=r+t:=by have:=ER.out;omega
     have dn:xs1.drop t=[]:=List.drop_eq_nil_of_le (by rw [HN.out];exact Nat.le_refl _)
     have tx:tk=xs1:=by rw [TK.out];exact List.take_of_length_le (by rw [HN.out];exact Nat.le_refl _)
     have KW:Hid (whole64 C1 ((lay R1 r tk).take ((L1+t) % 128) ++ xs1.drop t)=Wt):=by
      show _=_
      rw [lf,mk.out,dn,List.append_nil,tx,ER.out]
      exact hW1.out
     have KF:Hid (left64 ((lay R1 r tk).take ((L1+t) % 128) ++ xs1.drop t)=Lf):=by
      show _=_
      rw [lf,mk.out,dn,List.append_nil,tx,ER.out]
      exact hF1.out
     clear mk lf dn tx
     go_wp2
     go_roundw
     case rel=>exact ⟨L1+t,c1 - t,C1,lay R1 r tk,xs1.drop t,_,by rw [dl.out,Nat.sub_self],by rw [Int.natCast_add];exact H5,hC1,ly,r5,byt_drop hx1 t,by rw [dl.out];have:=HN.out;omega,by rw [dl.out];have:=HN.out;omega,by show _=_;rw [dl.out];have:=hL1.out;have:=HN.out;omega,KW,KF,T5,B5⟩
     case measure=>simp only [vlen_slice];omega
  ·obtain rfl : xs1 = [] := List.eq_nil_of_length_eq_zero (by omega)
   have e1:L1=Lt:=by have:=hL1.out;simpa using this
   have sh:(R1.take (L1 % 128)).length < 128:=by rw [List.length_take];omega
   have e2:C1=Wt:=by have:=hW1.out;rw [List.append_nil,whole_short64 _ sh] at this;exact this
   have e3:R1.take (L1 % 128)=Lf:=by have:=hF1.out;rw [List.append_nil,left_short64 sh] at this;exact this
   have E:=hide (And.intro e1 (And.intro e2 e3))
   clear e1 e2 e3 sh hL1 hW1 hF1
   go_wp2
   obtain ⟨e1,e2,e3⟩:=E.out
   subst e1 e2
   exact bodyPost_end (v := .tuple #[]) (by simp [results,Tryz.results97,go_sem]) rfl ⟨rfl,R1,hH1,hR1,e3,hB1⟩
end Go.Proofs.YtnpolopcgmjmnaaGreatDoor
namespace Go.Proofs.YtnpolopcgmjmnaaGreatDoor
set_option maxRecDepth 100000
open Go Go.RowKit
theorem rowH_64:∃ d,Tryz.prog.underlying 131=some d∧d.isRow=true:=by
 have h:=undH_64
 cases hq:Tryz.prog.underlying 131 with
 | none=>rw [hq] at h;simp at h
 | some d=>rw [hq] at h;exact ⟨d,rfl,by simpa using h⟩
theorem row8_64:Tryz.prog.underlying 128=some (.array 8 65):=by kernel_rfl
theorem info8_64:(Tryz.prog.info? 128).map (·.size)=some 8:=by kernel_rfl
def endL64 (L:Nat) (C:S8) (R:List Int):List Int:=tell64 (whole64 C (R.take (L % 128) ++ padL (L:Int) 128 16))
set_option maxHeartbeats 4000000 in
theorem end_64 (w:World) (L:Nat) (C:S8) (R:List Int) (hl:R.length=128) (hC:Ok64 C) (hR:Byt R) (hL:L≤1099511627776) (hT:HasT w 12 kL) :
  Calls Tryz.prog 79 #[.agg (hcl .u64 (L:Int) C R).toArray] w fun e w'=>NewRow w.heap.size w' e .u8 (endL64 L C R)∧Below w.heap.size w w':=by
 have n0:Below w.heap.size w (w.alloc (.cells (hcl .u64 (L:Int) C R).toArray 131)):=(Below.refl _ _).alloc (Nat.le_refl _) _
 have H0:=HB.alloc .u64 w 131 (L:Int) C hl
 have z0:(w.alloc (.cells (hcl .u64 (L:Int) C R).toArray 131)).heap.size=w.heap.size+1:=by simp
 have gl:12 < w.heap.size:=block_lt_of_cell (hT 0 (by decide))
 have PD:=fun w=>hide (padding_64 w (L:Int) (by omega) (by omega))
 have PB:=padL_byt (L:Int) 128 16
 have PL:(padL (L:Int) 128 16).length≤512:=by rw [padL_len];have:=padZ_lt (L:Int) (B:=128) (t:=16) (by decide);omega
 generalize hv:hcl .u64 (L:Int) C R=vs at *
 unfold endL64
 generalize padL (L:Int) 128 16=pl at *
 obtain ⟨C2,hC2⟩:∃ s,s=whole64 C (R.take (L % 128) ++ pl):=⟨_,rfl⟩
 have oC:Ok64 C2:=by rw [hC2];exact whole_ok64 hC _
 rw [← hC2]
 have TK0:=fun w1 q H1 g1 a1 c1 o1 q1 h1 h2 h3 h4=>take_64 w1 q L C R H1 hC hR g1 a1 c1 pl o1 PB q1 h1 h2 h3 h4
 rw [← hC2] at TK0
 clear hC2
 go_enter Tryz.func79,Tryz.ntmps79
 go_upto_region 1 with fail
 generalize w.alloc (.cells vs.toArray 131)=wa at *
 have c0:=H0.c0
 go_wp2_with fail
 refine (PD wa).out.mono ?_
 rintro r w1 ⟨⟨a1,c1,g1,rfl,o1,p1,q1,r1⟩,n1⟩
 have H1:=H0.up n1
 have N1:=nxt n0 n1
 have TK:=TK0 w1 w.heap.size H1 g1 a1 c1 o1.rd q1 (fun _=>by omega) (by omega) (hT.up N1) (by omega)
 have TKH:=hide TK
 clear TK PD H0 n1 c0 H1
 go_wp2_with fail
 refine TKH.out.mono ?_
 rintro r w2 ⟨rfl,R2,H2,b2,e2,B2⟩
 have N2:Below w.heap.size w w2:=N1.trans (B2.below (by omega) N1.size)
 have RG:=H2.ch.range
 have BY:=hide (bytes_64 w2 C2 oC)
 clear TKH H2 b2 e2 B2 N1 o1 TK0
 go_wp2_with (refine wpList_load_mid rfl 128 (.tmp 7) rfl w.heap.size 1 rfl (C2.l.map (Value.int .u64)) (.array 8 65) RG row8_64 rfl (by rw [List.length_map];exact info8_64) ?_)
 refine BY.out.mono ?_
 rintro r w3 ⟨⟨a3,c3,g3,rfl,o3,p3,q3,r3⟩,n3⟩
 have z2:=N2.size
 go_wp2
 go_ret
 exact ⟨⟨a3,c3,g3,rfl,o3,p3,q3,by omega⟩,nxt N2 n3⟩
theorem whole_left64 (s:S8) (l m:List Int):whole64 (whole64 s l) (left64 l ++ m)=whole64 s (l ++ m):=by
  induction h:l.length using Nat.strongRecOn generalizing s l with
  | ind n ih =>
    by_cases c:l.length < 128
    · rw [whole_short64 s c,left_short64 c]
    · have hl : (l.take 128).length = 128 := by rw [List.length_take]; omega
      have e:l=l.take 128 ++ l.drop 128:=(List.take_append_drop _ _).symm
      have r:=ih (l.drop 128).length (by rw [List.length_drop];omega) (blk64 s (wd 8 (l.take 128))) (l.drop 128) rfl
      rw [e,whole_app64 _ _ _ hl,left_app64 _ _ hl,List.append_assoc,whole_app64 _ _ _ hl]
      exact r
def hashL64 (xs:List Int):List Int:=tell64 (whole64 start64 (xs ++ padL (xs.length:Int) 128 16))
theorem hash_is64 {R xs:List Int} (e:R.take (xs.length % 128)=left64 xs):endL64 xs.length (whole64 start64 xs) R=hashL64 xs:=by
 unfold endL64 hashL64
 rw [e,whole_left64]
end Go.Proofs.YtnpolopcgmjmnaaGreatDoor
namespace Go.Proofs.YtnpolopcgmjmnaaGreatDoor
set_option maxRecDepth 100000
open Go Go.RowKit
structure HasS (w:World):Prop where
 T:HasTw w 8
 C:Em5 w 7 0 dGo
 Z:RowN w 2 0 [0,1]
 S:HasSt w 13
 I:Has3 w 9 12 5 4
 B:RowN w 1 0 [bX,bY]
theorem HasS.up {w w':World} (h:HasS w) (n:Below w.heap.size w w'):HasS w':=⟨h.T.up n,h.C.up n,h.Z.up n,h.S.up n,h.I.up n,RowN.up h.B n⟩
theorem hash64_len (xs:List Int):(hashL64 xs).length=64:=by unfold hashL64;rw [tell_len64]
theorem hash64_byt (xs:List Int):Byt (hashL64 xs):=tell_byt64 _
end Go.Proofs.YtnpolopcgmjmnaaGreatDoor
namespace Go.Proofs.YtnpolopcgmjmnaaGreatDoor
set_option maxRecDepth 100000
open Go Go.RowKit
structure Lst where
 g:Nat
 a:Option Addr
 c:Nat
 xs:List Int
def cat (ls:List Lst):List Int:=(ls.map Lst.xs).flatten
theorem cat_take (ls:List Lst) (j:Nat) (l:Lst) (h:ls[j]?=some l):cat (ls.take (j+1))=cat (ls.take j) ++ l.xs:=by
 unfold cat
 rw [List.take_add_one,h]
 simp
def Lsts (w:World) (b:Nat) (ls:List Lst):Prop:=∀ j l,ls[j]?=some l→w.cell? ⟨b,j,none⟩=some (.slice l.a l.xs.length l.c)
theorem Lsts.up {w w':World} {b:Nat} {ls:List Lst} (h:Lsts w b ls) (n:Below w.heap.size w w'):Lsts w' b ls:=fun j l hj=>by
 have:=h j l hj
 rw [World.cell?_of_block (a:=⟨b,j,none⟩) (n.block b (block_lt_of_cell this))]
 exact this
end Go.Proofs.YtnpolopcgmjmnaaGreatDoor
namespace Go.Proofs.YtnpolopcgmjmnaaGreatDoor
set_option maxRecDepth 100000
open Go Go.RowKit
theorem left_left64 (l m:List Int):left64 (left64 l ++ m)=left64 (l ++ m):=by
  induction h:l.length using Nat.strongRecOn generalizing l with
  | ind n ih =>
    by_cases c:l.length < 128
    · rw [left_short64 c]
    · have hl : (l.take 128).length = 128 := by rw [List.length_take]; omega
      have e:l=l.take 128 ++ l.drop 128:=(List.take_append_drop _ _).symm
      have r:=ih (l.drop 128).length (by rw [List.length_drop];omega) (l.drop 128) rfl
      rw [e,left_app64 _ _ hl,List.append_assoc,left_app64 _ _ hl]
      exact r
def HD (w:World) (q:Nat) (ys:List Int):Prop:=∃ R,HB .u64 w q ((ys.length:Nat):Int) (whole64 start64 ys) R∧Byt R∧R.take (ys.length % 128)=left64 ys
theorem HD.lt {w:World} {q:Nat} {ys:List Int} (h:HD w q ys):q < w.heap.size:=by
 obtain ⟨R,h,_⟩:=h
 exact h.lt
theorem HD.up {w w':World} {q:Nat} {ys:List Int} (h:HD w q ys) (n:Below w.heap.size w w'):HD w' q ys:=by
 obtain ⟨R,h,k⟩:=h
 exact ⟨R,h.up n,k⟩
theorem HD.of_block {w w':World} {q:Nat} {ys:List Int} (h:HD w q ys) (hb:w'.heap[q]?=w.heap[q]?):HD w' q ys:=by
 obtain ⟨R,h,k⟩:=h
 exact ⟨R,h.of_block hb,k⟩
def HV (vs:List Value) (ys:List Int):Prop:=∃ R,vs=hcl .u64 ((ys.length:Nat):Int) (whole64 start64 ys) R∧R.length=128∧Byt R∧R.take (ys.length % 128)=left64 ys
theorem HV.len {vs:List Value} {ys:List Int} (h:HV vs ys):vs.length=137:=by
 obtain ⟨R,rfl,hl,_⟩:=h
 exact hcl_len _ _ _ hl
theorem HV.one {vs:List Value} {ys:List Int} (h:HV vs ys):∀ v ∈ vs,v.oneCell'=true:=by
 obtain ⟨R,rfl,hl,_⟩:=h
 intro v hv
 have:=hcl_one .u64 ((ys.length:Nat):Int) (whole64 start64 ys) R
 rw [Array.all_eq_true_iff_forall_mem] at this
 exact this v (by simpa using hv)
theorem HD.val {w:World} {q:Nat} {ys:List Int} (h:HD w q ys):∃ vs,HV vs ys∧w.rangeAt q 0 vs∧w.there q 0 137:=by
 obtain ⟨R,h,b,e⟩:=h
 exact ⟨_,⟨R,rfl,h.len,b,e⟩,h.range,h.there⟩
theorem HV.at {w:World} {q:Nat} {vs:List Value} {ys:List Int} (h:HV vs ys) (rg:w.rangeAt q 0 vs) (th:w.there q 0 137):HD w q ys:=by
 obtain ⟨R,rfl,hl,b,e⟩:=h
 exact ⟨R,HB.of_range hl rg th,b,e⟩
theorem HV.start:HV (hcl .u64 0 start64 (List.replicate 128 0)) []:=⟨List.replicate 128 0,by rw [whole_short64 start64 (by simp)];rfl,by simp,byt_rep0 _,by rw [left_short64 (by simp)];rfl⟩
theorem takeD (w:World) (q:Nat) (ys:List Int) (h:HD w q ys) (g:Nat) (a:Option Addr) (c:Nat) (xs:List Int) (hr:Rd w g a .u8 xs) (hx:Byt xs) (hc:xs.length≤c) (hg:0 < xs.length→g≠q)
  (hL:ys.length+xs.length≤1152921504606846976) (hT:HasT w 12 kL) (hq:12≠q) :
  Calls Tryz.prog 97 #[.pointer (some ⟨q,0,none⟩),.slice a xs.length c] w fun e w'=>e = .returned (.tuple #[])∧HD w' q (ys ++ xs)∧Bth q w w':=by
 obtain ⟨R,H,b,e⟩:=h
 refine (take_64 w q ys.length (whole64 start64 ys) R H (whole_ok64 start_ok64 ys) b g a c xs hr hx hc hg hL hT hq).mono ?_
 rintro r w' ⟨rfl,R',H',b',e',B'⟩
 rw [e,whole_left64] at H'
 rw [e,left_left64] at e'
 exact ⟨rfl,⟨R',by rw [List.length_append];exact H',b',by rw [List.length_append];exact e'⟩,B'⟩
theorem endV (w:World) (vs:List Value) (ys:List Int) (h:HV vs ys) (hn:ys.length≤1099511627776) (hT:HasT w 12 kL) :
  Calls Tryz.prog 79 #[.agg vs.toArray] w fun e w'=>NewRow w.heap.size w' e .u8 (hashL64 ys)∧Below w.heap.size w w':=by
 obtain ⟨R,rfl,hl,b,e⟩:=h
 rw [← hash_is64 e]
 exact end_64 w ys.length (whole64 start64 ys) R hl (whole_ok64 start_ok64 ys) b hn hT
def Lst.ok (w:World) (q:Nat) (l:Lst):Prop:=Rd w l.g l.a .u8 l.xs∧Byt l.xs∧l.xs.length≤l.c∧(0 < l.xs.length→l.g≠q)
theorem Lst.ok.bt {w w':World} {q:Nat} {l:Lst} (h:l.ok w q) (b:Bth q w w'):l.ok w' q:=by
 obtain ⟨h1,h2,h3,h4⟩:=h
 refine ⟨?_,h2,h3,h4⟩
 by_cases h0:0 < l.xs.length
 ·exact h1.bt b (h4 h0)
 ·exact fun h1=>absurd h1 h0
theorem Lsts.bt {w w':World} {q b:Nat} {ls:List Lst} (h:Lsts w b ls) (B:Bth q w w') (hb:b≠q):Lsts w' b ls:=fun j l hj=>by
 have:=h j l hj
 rw [World.cell?_of_block (a:=⟨b,j,none⟩) (B.block b (block_lt_of_cell this) hb)]
 exact this
set_option maxHeartbeats 2000000 in
theorem takeAllD (w : World) (q : Nat) (ys : List Int) (h : HD w q ys) (b n c : Nat) (ls : List Lst) (hn : ls.length = n) (hm : n ≤ 1000) (hs : Lsts w b ls) (hl : ∀ l ∈ ls, l.ok w q) (hb : b ≠ q)
  (hL:ys.length+(cat ls).length≤1152921504606846976) (hT:HasT w 12 kL) (hq:12≠q) :
  Calls Tryz.prog 77 #[.pointer (some ⟨q,0,none⟩),.slice (some ⟨b,0,none⟩) n c] w fun e w'=>e = .returned (.tuple #[])∧HD w' q (ys ++ cat ls)∧Bth q w w':=by
 have HN:=hide hn
 clear hn
 have hp:∀ j,(cat (ls.take j)).length≤(cat ls).length:=fun j=>by
  have:cat ls=cat (ls.take j) ++ cat (ls.drop j):=by
   unfold cat
   rw [← List.flatten_append,← List.map_append,List.take_append_drop]
  rw [this,List.length_append]
  omega
 go_enter Tryz.func77,Tryz.ntmps77
 go_wp2_with fail
 go_loopw [5,8] (fun _ i wr=>∃ (j:Nat),j≤n∧i = .int .i64 j∧HD wr q (ys ++ cat (ls.take j))∧Bth q w wr) (fun _ i _=>n - (intOf i).toNat)
 case atStart=>exact ⟨0,Nat.zero_le _,rfl,by simpa [cat] using h,Bth.refl _ _⟩
 case round =>
  obtain ⟨j,hj,rfl,hD,hB⟩:=hrel
  by_cases hlt:j < n
  ·obtain ⟨l, hjl⟩ : ∃ l, ls[j]? = some l := ⟨ls[j]'(by rw [HN.out]; exact hlt), List.getElem?_eq_getElem _⟩
   have lm:l ∈ ls:=List.mem_of_getElem? hjl
   have ok:=(hl l lm).bt hB
   have cc:=(hs.bt hB hb) j l hjl
   have ct:=cat_take ls j l hjl
   have lb:(ys ++ cat (ls.take j)).length+l.xs.length≤1152921504606846976:=by
    have:=hp (j+1)
    rw [ct,List.length_append] at this
    rw [List.length_append]
    omega
   have TD:=hide (takeD wr q _ hD l.g l.a l.c l.xs ok.1 ok.2.1 ok.2.2.1 ok.2.2.2 lb (hT.bt (by decide) hB hq) hq)
   have CT:=hide ct
   clear lb ct hD h hs hl ok lm
   generalize cat (ls.take j)=cj at *
   have jn:(j:Int) < (n:Int):=by omega
   go_wp2_with fail
   refine TD.out.mono ?_
   rintro e w1 ⟨rfl,D1,B1⟩
   rw [List.append_assoc,← CT.out] at D1
   have BB:=hB.trans B1
   clear TD
   go_wp2
   go_roundw
   case rel=>exact ⟨j+1,by omega,by go_num,D1,BB⟩
   case measure=>simp [intOf];omega
  ·obtain rfl : j = n := by omega
   have e:ls.take j=ls:=List.take_of_length_le (by rw [HN.out];exact Nat.le_refl _)
   rw [e] at hD
   go_wp2
   exact bodyPost_end (v := .tuple #[]) (by simp [results,Tryz.results77,go_sem]) rfl ⟨rfl,hD,hB⟩
end Go.Proofs.YtnpolopcgmjmnaaGreatDoor
namespace Go.Proofs.YtnpolopcgmjmnaaGreatDoor
set_option maxRecDepth 100000
open Go.RowKit
def sub64Entry:Array Value→Sem Value:=fun args=>do
 let (x, y, b) ← Extern.MathBitsCarry.three "Sub64" args
 pure (Extern.MathBitsCarry.pair ((x+Extern.MathBitsCarry.m64 - y - b) % Extern.MathBitsCarry.m64) (if x < y+b then 1 else 0))
theorem run_sub64 {P:Program} (x y c:Int) (hx:0≤x∧x < 18446744073709551616) (hy:0≤y∧y < 18446744073709551616) (hc:c=0∨c=1) (w:World) :
  (sub64Entry #[.int .u64 x,.int .u64 y,.int .u64 c]).run P w =
   .ok (.tuple #[.int .u64 ((x - y - c) % 18446744073709551616),.int .u64 (if x - y - c < 0 then 1 else 0)]) w:=by
 have key:∀ k:Nat,k≤1→(sub64Entry #[.int .u64 x,.int .u64 y,.int .u64 (k:Int)]).run P w =
   .ok (Extern.MathBitsCarry.pair ((x.toNat+Extern.MathBitsCarry.m64 - y.toNat - k) % Extern.MathBitsCarry.m64) (if x.toNat < y.toNat+k then 1 else 0)) w:=by
  intro k hk
  have:k=0∨k=1:=by omega
  rcases this with rfl | rfl <;> rfl
 obtain ⟨k,rfl⟩:=Int.eq_ofNat_of_zero_le (show 0≤c by omega)
 rw [key k (by omega)]
 obtain ⟨X,rfl⟩:=Int.eq_ofNat_of_zero_le hx.1
 obtain ⟨Y,rfl⟩:=Int.eq_ofNat_of_zero_le hy.1
 simp only [Extern.MathBitsCarry.pair,Extern.MathBitsCarry.m64,Int.toNat_natCast]
 have e1:Int.ofNat ((X+2 ^ 64 - Y - k) % 2 ^ 64)=((X:Int) - Y - k) % 18446744073709551616:=by
  show (((X+2 ^ 64 - Y - k) % 2 ^ 64:Nat):Int)=_
  omega
 have e2:Int.ofNat (if X < Y+k then 1 else 0)=(if (X:Int) - Y - k < 0 then 1 else 0:Int):=by
  by_cases h:X < Y+k
  ·rw [if_pos h,if_pos (by omega)];rfl
  ·rw [if_neg h,if_neg (by omega)];rfl
 rw [e1,e2]
theorem sub64_run (x y c:Int) (hx:0≤x∧x < 18446744073709551616) (hy:0≤y∧y < 18446744073709551616) (hc:c=0∨c=1) (w:World) :
  (callFunc 122 #[.int .u64 x,.int .u64 y,.int .u64 c]).run Tryz.prog w =
   .ok (.value (.tuple #[.int .u64 ((x - y - c) % 18446744073709551616),.int .u64 (if x - y - c < 0 then 1 else 0)])) w:=by
 rw [run_callFunc_extern Tryz.func122 (by kernel_rfl) (by kernel_rfl) (by kernel_rfl) (e:=sub64Entry) (by kernel_rfl),run_sub64 x y c hx hy hc]
 simp only [Result.andThen]
theorem add64c_run (x y c:Int) (hx:0≤x) (hy:0≤y) (hc:c=0∨c=1) (w:World) :
  (callFunc 123 #[.int .u64 x,.int .u64 y,.int .u64 c]).run Tryz.prog w =
   .ok (.value (.tuple #[.int .u64 ((x+y+c) % 18446744073709551616),.int .u64 ((x+y+c) / 18446744073709551616)])) w:=by
 rw [run_callFunc_extern Tryz.func123 (by kernel_rfl) (by kernel_rfl) (by kernel_rfl) (e:=add64Entry) (by kernel_rfl),run_add64 x y c hx hy (by omega) (by omega)]
 simp only [Result.andThen]
theorem addProduct0 (w:World) (l a b:Int) (hl:0≤l∧l < 18446744073709551616) (ha:0≤a∧a < 18446744073709551616) (hb:0≤b∧b < 18446744073709551616) :
  Calls Tryz.prog 120 #[.agg #[.int .u64 0,.int .u64 l],.int .u64 a,.int .u64 b] w fun e w' =>
   e = .returned (.agg #[.int .u64 ((l+a*b) / 18446744073709551616),.int .u64 ((l+a*b) % 18446744073709551616)])∧Below w.heap.size w w':=by
 have h:=addProduct_any w 0 l a b (by omega) hl ha hb (by have:=(mul_word ha hb).2;omega)
 simp only [ag2,Int.zero_mul,Int.zero_add] at h
 exact h
theorem idx4 (t:Nat→Int) (k:Nat) (hk:k < 4) (W:World) :
  (Instr.index 87 (.agg #[.int .u64 (t 0),.int .u64 (t 1),.int .u64 (t 2),.int .u64 (t 3)]) (.int .i64 (k:Int))).run Tryz.prog W = .ok (.int .u64 (t k)) W:=by
 obtain rfl | rfl | rfl | rfl:k=0∨k=1∨k=2∨k=3:=by omega
 all_goals kernel_rfl
theorem and_mask (q b:Int) (hq:0≤q∧q < 18446744073709551616) (hb:b=0∨b=1):bits BinOp.and .u64 q (b*18446744073709551615)=q*b:=by
 obtain ⟨m,rfl⟩:=Int.eq_ofNat_of_zero_le hq.1
 rcases hb with rfl | rfl
 ·have h := bits_and_u64_nat m 0 (by omega) (by omega)
  rw [Nat.and_zero] at h
  simpa using h
 ·have h := bits_and_u64_nat m 18446744073709551615 (by omega) (by omega)
  have e:m &&& 18446744073709551615=m % 18446744073709551616:=Nat.and_two_pow_sub_one_eq_mod m 64
  rw [e,Nat.mod_eq_of_lt (by omega)] at h
  simpa using h
def mix (f s:Nat→Int) (k j:Nat):Int:=if j < k then f j else s j
abbrev c4 (u:Nat→Int):List Int:=[u 0,u 1,u 2,u 3]
theorem mix_set (f s:Nat→Int) (k:Nat) (hk:k < 4):(c4 (mix f s k)).set k (f k)=c4 (mix f s (k+1)):=by
 obtain rfl | rfl | rfl | rfl:k=0∨k=1∨k=2∨k=3:=by omega
 all_goals simp [mix,c4]
theorem mix_allO (f s:Nat→Int):c4 (mix f s 4)=c4 f:=by simp [mix,c4]
theorem mix_zero (f s:Nat→Int):c4 (mix f s 0)=c4 s:=by simp [mix,c4]
theorem mix_at (f s:Nat→Int) (k:Nat) (hk:k < 4):(c4 (mix f s k)).getD k 0=s k:=by
 obtain rfl | rfl | rfl | rfl:k=0∨k=1∨k=2∨k=3:=by omega
 all_goals simp [mix,c4]
theorem mix_len (f s:Nat→Int) (k:Nat):(c4 (mix f s k)).length=4:=rfl
theorem blk_box2O (w:World) (k:IntKind) (t:TypeId) (a b:Int):Blk (w.alloc (.cells #[.int k a,.int k b] t)) w.heap.size k [a,b] :=
 ⟨t,by rw [heap_alloc_last];rfl⟩
set_option maxHeartbeats 8000000 in
theorem lessTimes_any (w : World) (s t : Nat → Int) (n : Int) (hn : 0 ≤ n ∧ n < 18446744073709551616) (hs : W4 s) (ht : W4 t) (hQ : HasW w 6 qw 4) :
  Calls Tryz.prog 101 #[ag4 s,.int .u64 n,ag4 t] w fun r w'=>r = .returned (ag4 (lsT n s t))∧Below w.heap.size w w':=by
 have gq:=hQ.lt (by omega)
 have B0:=blk_box4 w .u64 87 (s 0) (s 1) (s 2) (s 3)
 have n0:Below w.heap.size w (w.alloc (.cells #[.int .u64 (s 0),.int .u64 (s 1),.int .u64 (s 2),.int .u64 (s 3)] 87)):=(Below.refl _ _).alloc (Nat.le_refl _) _
 have s0:(w.alloc (.cells #[.int .u64 (s 0),.int .u64 (s 1),.int .u64 (s 2),.int .u64 (s 3)] 87)).heap.size=w.heap.size+1:=by simp
 simp only [ag4]
 go_enter Tryz.func101,Tryz.ntmps101
 go_wp2
 generalize w.alloc (.cells #[.int .u64 (s 0),.int .u64 (s 1),.int .u64 (s 2),.int .u64 (s 3)] 87)=wa at *
 have n1:Below wa.heap.size wa (wa.alloc (.cells #[.int .u64 (t 0),.int .u64 (t 1),.int .u64 (t 2),.int .u64 (t 3)] 87)):=(Below.refl _ _).alloc (Nat.le_refl _) _
 have s1:(wa.alloc (.cells #[.int .u64 (t 0),.int .u64 (t 1),.int .u64 (t 2),.int .u64 (t 3)] 87)).heap.size=w.heap.size+1+1:=by simp [s0]
 generalize wa.alloc (.cells #[.int .u64 (t 0),.int .u64 (t 1),.int .u64 (t 2),.int .u64 (t 3)] 87)=wb at *
 have B2:=blk_box4 wb .u64 87 0 0 0 0
 have n2:Below wb.heap.size wb (wb.alloc (.cells #[.int .u64 0,.int .u64 0,.int .u64 0,.int .u64 0] 87)):=(Below.refl _ _).alloc (Nat.le_refl _) _
 have s2:(wb.alloc (.cells #[.int .u64 0,.int .u64 0,.int .u64 0,.int .u64 0] 87)).heap.size=w.heap.size+1+1+1:=by simp [s1]
 generalize wb.alloc (.cells #[.int .u64 0,.int .u64 0,.int .u64 0,.int .u64 0] 87)=wc at *
 have E0:=(B0.up n1).up n2
 rw [s1] at B2
 have N:=nxt (nxt n0 n1) n2
 clear B0 n0 n1 n2 s0 s1 s2
 go_loopw [7,8,17] (fun o b i wr=>∃ k:Nat,k≤4∧i = .int .i64 k∧o = .int .u64 (lo4 n t k)∧b = .int .u64 (lb4 n s t k)∧Blk wr w.heap.size .u64 (c4 (mix (ls4 n s t) s k))∧Blk wr (w.heap.size+1+1) .u64 [0,0,0,0]∧Below w.heap.size w wr) (fun _ _ i _=>4 - (intOf i).toNat)
 case atStart=>exact ⟨0,by omega,rfl,rfl,rfl,by rw [mix_zero];exact E0,B2,N⟩
 case round =>
  clear E0 B2 N
  obtain ⟨k,hk,rfl,rfl,rfl,hB,hR,hN⟩:=hrel
  by_cases hlt:k < 4
  ·have IX := idx4 t k hlt
   have tk:=ht k hlt
   have sk:=hs k hlt
   have ok:=lo4_bd hn ht k hk
   have bk:=lb4_bd n s t k
   have e1:lo4 n t (k+1)=(lo4 n t k+n*t k) / 18446744073709551616:=rfl
   have e2:lb4 n s t (k+1)=if s k - (lo4 n t k+n*t k) % 18446744073709551616 - lb4 n s t k < 0 then 1 else 0:=rfl
   have e3:ls4 n s t k=(s k - (lo4 n t k+n*t k) % 18446744073709551616 - lb4 n s t k) % 18446744073709551616:=rfl
   have SU:=sub64_run (s k) ((lo4 n t k+n*t k) % 18446744073709551616) (lb4 n s t k) sk (by omega) bk
   rw [← e2,← e3] at SU
   have AP:=fun W=>addProduct0 W (lo4 n t k) n (t k) ok hn tk
   rw [← e1] at AP
   have k2:(k:Int) < 4:=by omega
   have hcs:(c4 (mix (ls4 n s t) s k)).getD k 0=s k:=mix_at _ _ _ hlt
   have hst:=mix_set (ls4 n s t) s k hlt
   generalize (lo4 n t k+n*t k) % 18446744073709551616=d at *
   obtain ⟨o1,ho1⟩:∃ o1,o1=lo4 n t (k+1):=⟨_,rfl⟩
   obtain ⟨b1,hb1⟩:∃ b1,b1=lb4 n s t (k+1):=⟨_,rfl⟩
   have E1:Hid (Value.int IntKind.u64 o1 = .int .u64 (lo4 n t (k+1))):=by show _=_;rw [ho1]
   have E2:Hid (Value.int IntKind.u64 b1 = .int .u64 (lb4 n s t (k+1))):=by show _=_;rw [hb1]
   rw [← ho1] at AP e1
   rw [← hb1] at SU e2
   clear ho1 hb1 e1 e2 e3
   generalize lo4 n t k=o0 at *
   generalize lb4 n s t k=b0 at *
   generalize ls4 n s t k=l at *
   generalize t k=tv at *
   obtain ⟨ys,hys⟩:∃ ys,ys=c4 (mix (ls4 n s t) s k):=⟨_,rfl⟩
   rw [← hys] at hB hcs hst
   go_wp2_with fail
   refine (AP wr).mono ?_
   rintro r w1 ⟨rfl,n1⟩
   have D:=blk_box2O w1 .u64 182 o1 d
   have n2:Below w1.heap.size w1 (w1.alloc (.cells #[.int .u64 o1,.int .u64 d] 182)):=(Below.refl _ _).alloc (Nat.le_refl _) _
   have hN2:=nxt (nxt hN n1) n2
   have hB2:=(hB.up n1).up n2
   have hR2:=(hR.up n1).up n2
   have yl:ys.length=4:=by rw [← mix_len (ls4 n s t) s k];exact congrArg List.length hys
   have cy:(w1.alloc (.cells #[.int .u64 o1,.int .u64 d] 182)).cell? ⟨w.heap.size,k,none⟩=some (.int .u64 (s k)):=by rw [hB2.cell (by omega),hcs]
   have fy:=hB2.free k
   have d0:=D.cell (i:=0) (by simp)
   have d1:=D.cell (i:=1) (by simp)
   simp only [List.getD_cons_zero,List.getD_cons_succ] at d0 d1
   have S0:=hB2.store k l
   rw [hst] at S0
   have S1:=hR2.of_block (w':=(w1.alloc (.cells #[.int .u64 o1,.int .u64 d] 182)).setCell ⟨w.heap.size,k,none⟩ (.int .u64 l)) (heap_setCell_other _ ⟨w.heap.size,k,none⟩ _ _ (by show w.heap.size+1+1≠w.heap.size;omega))
   have S2:Below w.heap.size w ((w1.alloc (.cells #[.int .u64 o1,.int .u64 d] 182)).setCell ⟨w.heap.size,k,none⟩ (.int .u64 l)):=hN2.setCell (Nat.le_refl _) _
   clear hB2 hR2 hN2 n2 n1 D hB hR hN AP hst yl hcs
   go_wp2
   generalize w1.alloc (.cells #[.int .u64 o1,.int .u64 d] 182)=w2 at *
   go_region
   go_wp2
   go_roundw
   case rel=>exact ⟨k+1,by omega,by go_num,E1.out,E2.out,S0.drew,S1.drew,S2.drew⟩
   case measure=>simp [intOf];omega
  ·obtain rfl : k = 4 := by omega
   rw [mix_allO] at hB
   have hL:=ls4_W4 n s t
   have bk:=lb4_bd n s t 4
   have hT:lsT n s t=qs4 (ls4 n s t) qw (lb4 n s t 4):=rfl
   have HT:=hide hT
   obtain ⟨q0,q1,q2,q3⟩:=(hQ.up hN).f4
   generalize ls4 n s t=L at *
   generalize lb4 n s t 4=b at *
   generalize lo4 n t 4=o at *
   obtain ⟨m,hm⟩:∃ m,m=b*18446744073709551615:=⟨_,rfl⟩
   have hneg:IntKind.u64.wrap (-b)=m:=by rw [IntKind.wrap_u64];omega
   have AN:Hid (∀ k,k < 4→bits BinOp.and .u64 (qw k) m=qw k*b):=by
    intro k hk
    have hq:=qw_W4 k hk
    rw [hm]
    exact and_mask _ _ hq bk
   clear hT hm
   obtain ⟨qf,hqf⟩:∃ qf,qf=qw:=⟨_,rfl⟩
   have hq4:W4 qf:=by rw [hqf];exact qw_W4
   rw [← hqf] at q0 q1 q2 q3 AN HT
   clear hQ hqf
   go_wp2
   go_loopw [13,44] (fun c i wr=>∃ k:Nat,k≤4∧i = .int .i64 k∧c = .int .u64 (qc4 L qf b k)∧Blk wr w.heap.size .u64 (c4 (mix (qs4 L qf b) L k))∧Blk wr (w.heap.size+1+1) .u64 [0,0,0,0]∧Below w.heap.size w wr) (fun _ i _=>4 - (intOf i).toNat)
   case atStart=>exact ⟨0,by omega,rfl,rfl,by rw [mix_zero];exact hB,hR,hN⟩
   case round =>
    clear hB hR hN q0 q1 q2 q3
    obtain ⟨k,hk,rfl,rfl,hB,hR,hN⟩:=hrel
    by_cases hlt:k < 4
    ·have IX := idx4 qf k hlt
     have lk:=hL k hlt
     have qk:=hq4 k hlt
     have qb0:0≤qf k*b:=Int.mul_nonneg qk.1 (by omega)
     have an:=AN.out k hlt
     have ck:=qc4_bd hL hq4 bk k hk
     have AD:=add64c_run (L k) (qf k*b) (qc4 L qf b k) lk.1 qb0 ck
     have e1:qc4 L qf b (k+1)=(L k+qf k*b+qc4 L qf b k) / 18446744073709551616:=rfl
     have e2:qs4 L qf b k=(L k+qf k*b+qc4 L qf b k) % 18446744073709551616:=rfl
     rw [← e1,← e2] at AD
     have k2:(k:Int) < 4:=by omega
     have hcs:(c4 (mix (qs4 L qf b) L k)).getD k 0=L k:=mix_at _ _ _ hlt
     have cy:wr.cell? ⟨w.heap.size,k,none⟩=some (.int .u64 (L k)):=by rw [hB.cell (by rw [mix_len];exact hlt),hcs]
     have fy:=hB.free k
     have S0:=hB.store k (qs4 L qf b k)
     rw [mix_set _ _ _ hlt] at S0
     have S1:=hR.of_block (w':=wr.setCell ⟨w.heap.size,k,none⟩ (.int .u64 (qs4 L qf b k))) (heap_setCell_other _ ⟨w.heap.size,k,none⟩ _ _ (by show w.heap.size+1+1≠w.heap.size;omega))
     have S2:Below w.heap.size w (wr.setCell ⟨w.heap.size,k,none⟩ (.int .u64 (qs4 L qf b k))):=hN.setCell (Nat.le_refl _) _
     obtain ⟨c1,hc1⟩:∃ c1,c1=qc4 L qf b (k+1):=⟨_,rfl⟩
     have E1:Hid (Value.int IntKind.u64 c1 = .int .u64 (qc4 L qf b (k+1))):=by show _=_;rw [hc1]
     rw [← hc1] at AD
     clear hB hR hN e1 e2 hcs hc1
     generalize qs4 L qf b k=l at *
     generalize qc4 L qf b k=c0 at *
     generalize qf k*b=qm at *
     generalize qf k=qv at *
     generalize L k=lv at *
     go_wp2
     go_roundw
     case rel=>exact ⟨k+1,by omega,by go_num,E1.out,S0,S1,S2⟩
     case measure=>simp [intOf];omega
    ·obtain rfl : k = 4 := by omega
     rw [mix_allO] at hB
     have hE:Hid (lsT n s t=qs4 L qf b):=HT
     generalize qs4 L qf b=f at *
     obtain ⟨⟨p0,p1,p2,p3⟩,_⟩:=hB.f4
     obtain ⟨⟨r0,r1,r2,r3⟩,⟨g0,g1,g2,g3⟩⟩:=hR.f4
     go_wp2
     refine bodyPost_ret (v:=ag4 f) (by simp [ag4,results,Tryz.results101,go_sem,r0,r1,r2,r3]) rfl ⟨by rw [hE.out];rfl,?_⟩
     exact below_set4 hN (by omega) _ _ _ _
end Go.Proofs.YtnpolopcgmjmnaaGreatDoor
namespace Go.Proofs.YtnpolopcgmjmnaaGreatDoor
set_option maxRecDepth 100000
open Go.RowKit
def ag8O (u:Nat→Int):Value := .agg #[.int .u64 (u 0),.int .u64 (u 1),.int .u64 (u 2),.int .u64 (u 3),.int .u64 (u 4),.int .u64 (u 5),.int .u64 (u 6),.int .u64 (u 7)]
abbrev c8 (u:Nat→Int):List Int:=[u 0,u 1,u 2,u 3,u 4,u 5,u 6,u 7]
theorem blk_box8 (w:World) (k:IntKind) (t:TypeId) (a b c d e f g h:Int):Blk (w.alloc (.cells #[.int k a,.int k b,.int k c,.int k d,.int k e,.int k f,.int k g,.int k h] t)) w.heap.size k [a,b,c,d,e,f,g,h] :=
 ⟨t,by rw [heap_alloc_last];rfl⟩
theorem c8_get (u:Nat→Int) (j:Nat) (hj:j < 8):(c8 u).getD j 0=u j:=by
 obtain rfl | rfl | rfl | rfl | rfl | rfl | rfl | rfl:j=0∨j=1∨j=2∨j=3∨j=4∨j=5∨j=6∨j=7:=by omega
 all_goals rfl
theorem c8_len (u:Nat→Int):(c8 u).length=8:=rfl
theorem c8_set (u v:Nat→Int) (k:Nat) (x:Int) (hk:k < 8) (h:∀ j,j < 8→v j=if j=k then x else u j):(c8 u).set k x=c8 v:=by
 refine eq_of_getD (by simp) (fun i hi=>?_)
 rw [List.length_set,c8_len] at hi
 rw [c8_get v i hi,h i hi]
 by_cases e:i=k
 ·subst e
  rw [getD_set_self _ _ _ (by rw [c8_len];exact hk),if_pos rfl]
 ·rw [getD_set_ne _ _ _ _ (fun h=>e h.symm),if_neg e,c8_get u i hi]
theorem Blk.f8O {w:World} {g:Nat} {k:IntKind} {a b c d e f g' h:Int} (B:Blk w g k [a,b,c,d,e,f,g',h]) :
  (w.cell? ⟨g,0,none⟩=some (.int k a)∧w.cell? ⟨g,1,none⟩=some (.int k b)∧w.cell? ⟨g,2,none⟩=some (.int k c)∧w.cell? ⟨g,3,none⟩=some (.int k d)∧w.cell? ⟨g,4,none⟩=some (.int k e)∧w.cell? ⟨g,5,none⟩=some (.int k f)∧w.cell? ⟨g,6,none⟩=some (.int k g')∧w.cell? ⟨g,7,none⟩=some (.int k h)) ∧
  (w.frozen? ⟨g,0,none⟩=false∧w.frozen? ⟨g,1,none⟩=false∧w.frozen? ⟨g,2,none⟩=false∧w.frozen? ⟨g,3,none⟩=false∧w.frozen? ⟨g,4,none⟩=false∧w.frozen? ⟨g,5,none⟩=false∧w.frozen? ⟨g,6,none⟩=false∧w.frozen? ⟨g,7,none⟩=false) :=
 ⟨⟨B.cell (i:=0) (by simp),B.cell (i:=1) (by simp),B.cell (i:=2) (by simp),B.cell (i:=3) (by simp),B.cell (i:=4) (by simp),B.cell (i:=5) (by simp),B.cell (i:=6) (by simp),B.cell (i:=7) (by simp)⟩,B.free 0,B.free 1,B.free 2,B.free 3,B.free 4,B.free 5,B.free 6,B.free 7⟩
theorem below_set8O {B:Nat} {w w':World} (h:Below B w w') {g:Nat} (hg:B≤g) (a b c d e f g' i:Value) :
  Below B w ((((((((w'.setCell ⟨g,0,none⟩ a).setCell ⟨g,1,none⟩ b).setCell ⟨g,2,none⟩ c).setCell ⟨g,3,none⟩ d).setCell ⟨g,4,none⟩ e).setCell ⟨g,5,none⟩ f).setCell ⟨g,6,none⟩ g').setCell ⟨g,7,none⟩ i) :=
 (((((((h.setCell hg _).setCell hg _).setCell hg _).setCell hg _).setCell hg _).setCell hg _).setCell hg _).setCell hg _
theorem Blk.f2 {w:World} {g:Nat} {k:IntKind} {a b:Int} (h:Blk w g k [a,b]):(w.cell? ⟨g,0,none⟩=some (.int k a)∧w.cell? ⟨g,1,none⟩=some (.int k b))∧(w.frozen? ⟨g,0,none⟩=false∧w.frozen? ⟨g,1,none⟩=false) :=
 ⟨⟨h.cell (i:=0) (by simp),h.cell (i:=1) (by simp)⟩,h.free 0,h.free 1⟩
theorem upb' {w w':World} (n:Below w.heap.size w w') {g:Nat} {k:IntKind} {ys:List Int} (h:Blk w g k ys):Blk w' g k ys:=h.up n
theorem bA {w W:World} (h:Below w.heap.size w W) (o:Obj):Below w.heap.size w (W.alloc o):=h.alloc h.size _
set_option maxHeartbeats 4000000 in
theorem wideAdd_any (w:World) (h l n:Int) (hh:0≤h) (hl:0≤l∧l < 18446744073709551616) (hn:0≤n∧n < 18446744073709551616) (hs:h*18446744073709551616+l+n < 340282366920938463463374607431768211456) :
  Calls Tryz.prog 121 #[.agg #[.int .u64 h,.int .u64 l],.int .u64 n] w fun e w' =>
   e = .returned (.agg #[.int .u64 ((h*18446744073709551616+l+n) / 18446744073709551616),.int .u64 ((h*18446744073709551616+l+n) % 18446744073709551616)])∧Below w.heap.size w w':=by
 have AD:=add64_run l n hl.1 hn.1
 have K1:Hid ((h*18446744073709551616+l+n) / 18446744073709551616=h+(l+n) / 18446744073709551616):=by show _=_;omega
 have K2:Hid ((h*18446744073709551616+l+n) % 18446744073709551616=(l+n) % 18446744073709551616):=by show _=_;omega
 have b1:0≤(l+n) / 18446744073709551616:=by omega
 have b3:h+(l+n) / 18446744073709551616 < 18446744073709551616:=by omega
 generalize (l+n) % 18446744073709551616=s at *
 generalize (l+n) / 18446744073709551616=c at *
 clear hs
 go_enter Tryz.func121,Tryz.ntmps121
 go_wp2
 refine bodyPost_ret (v:=ag2 (h+c) s) (by simp [ag2,results,Tryz.results121,go_sem]) rfl ⟨by rw [K1.out,K2.out];rfl,?_⟩
 exact ((Below.refl _ _).alloc (Nat.le_refl _) _).alloc (by simp) _
def InBox (wr:World) (h l:Int) (v:Value) (wc:World):Prop:=∃ q,v = .pointer (some ⟨q,0,none⟩)∧wr.heap.size≤q∧Blk wc q .u64 [h,l]∧Below wr.heap.size wr wc
theorem inBox1 {wr wm:World} (n:Below wr.heap.size wr wm) (h l:Int):InBox wr h l (.pointer (some ⟨wm.heap.size,0,none⟩)) (wm.alloc (.cells #[.int .u64 h,.int .u64 l] 182)) :=
 ⟨_,rfl,n.size,blk_box2O wm .u64 _ h l,bA n _⟩
theorem inBox2 {wr wm:World} (n:Below wr.heap.size wr wm) (h l:Int) {q:Nat} (B:Blk wm q .u64 [0,0]) (hq:wr.heap.size≤q):InBox wr h l (.pointer (some ⟨q,0,none⟩)) ((wm.setCell ⟨q,0,none⟩ (.int .u64 h)).setCell ⟨q,1,none⟩ (.int .u64 l)) :=
 ⟨_,rfl,hq,(B.store 0 h).store 1 l,(n.setCell hq _).setCell hq _⟩
theorem at8_step (p:Nat) (n:Int) (s D:Nat→Int) (k:Nat) (hp:p≤3) (hk:k < 4) :
  (c8 (at8 p n s D k)).set (p+k) ((ac n s (fun i=>D (p+i)) k+n*s k+D (p+k)) % 18446744073709551616)=c8 (at8 p n s D (k+1)):=by
 refine c8_set _ _ _ _ (by omega) (fun j hj=>?_)
 unfold at8
 by_cases e:j=p+k
 ·subst e
  rw [if_pos (by omega),if_pos rfl,show p+k - p=k by omega]
 ·rw [if_neg e]
  by_cases h:p≤j∧j < p+k
  ·rw [if_pos (by omega),if_pos h]
  ·rw [if_neg (by omega),if_neg h]
theorem at8_zero (p:Nat) (n:Int) (s D:Nat→Int):c8 (at8 p n s D 0)=c8 D:=by
 have:at8 p n s D 0=D:=by
  funext j
  unfold at8
  rw [if_neg (by omega)]
 rw [this]
theorem at8_at (p:Nat) (n:Int) (s D:Nat→Int) (k j:Nat) (h:p+k≤j):at8 p n s D k j=D j:=by
 unfold at8
 rw [if_neg (by omega)]
set_option maxHeartbeats 8000000 in
theorem addTimes_any (w : World) (D s : Nat → Int) (p : Nat) (n : Int) (hp : p ≤ 3) (hn : 0 ≤ n ∧ n < 18446744073709551616) (hs : W4 s) (hD : W8 D) (ho : D (p + 4) + ac n s (fun i => D (p + i)) 4 < 18446744073709551616) :
  Calls Tryz.prog 100 #[ag8O D,.int .i64 p,.int .u64 n,ag4 s] w fun r w'=>r = .returned (ag8O (adT p n s D))∧Below w.heap.size w w':=by
 have B0:=blk_box8 w .u64 134 (D 0) (D 1) (D 2) (D 3) (D 4) (D 5) (D 6) (D 7)
 have n0:Below w.heap.size w (w.alloc (.cells #[.int .u64 (D 0),.int .u64 (D 1),.int .u64 (D 2),.int .u64 (D 3),.int .u64 (D 4),.int .u64 (D 5),.int .u64 (D 6),.int .u64 (D 7)] 134)):=(Below.refl _ _).alloc (Nat.le_refl _) _
 have s0:(w.alloc (.cells #[.int .u64 (D 0),.int .u64 (D 1),.int .u64 (D 2),.int .u64 (D 3),.int .u64 (D 4),.int .u64 (D 5),.int .u64 (D 6),.int .u64 (D 7)] 134)).heap.size=w.heap.size+1:=by simp
 simp only [ag8O,ag4]
 go_enter Tryz.func100,Tryz.ntmps100
 go_wp2
 generalize w.alloc (.cells #[.int .u64 (D 0),.int .u64 (D 1),.int .u64 (D 2),.int .u64 (D 3),.int .u64 (D 4),.int .u64 (D 5),.int .u64 (D 6),.int .u64 (D 7)] 134)=wa at *
 have n1:Below wa.heap.size wa (wa.alloc (.cells #[.int .u64 (s 0),.int .u64 (s 1),.int .u64 (s 2),.int .u64 (s 3)] 87)):=(Below.refl _ _).alloc (Nat.le_refl _) _
 have s1:(wa.alloc (.cells #[.int .u64 (s 0),.int .u64 (s 1),.int .u64 (s 2),.int .u64 (s 3)] 87)).heap.size=w.heap.size+1+1:=by simp [s0]
 generalize wa.alloc (.cells #[.int .u64 (s 0),.int .u64 (s 1),.int .u64 (s 2),.int .u64 (s 3)] 87)=wb at *
 have B2:=blk_box8 wb .u64 134 0 0 0 0 0 0 0 0
 have n2:Below wb.heap.size wb (wb.alloc (.cells #[.int .u64 0,.int .u64 0,.int .u64 0,.int .u64 0,.int .u64 0,.int .u64 0,.int .u64 0,.int .u64 0] 134)):=(Below.refl _ _).alloc (Nat.le_refl _) _
 have s2:(wb.alloc (.cells #[.int .u64 0,.int .u64 0,.int .u64 0,.int .u64 0,.int .u64 0,.int .u64 0,.int .u64 0,.int .u64 0] 134)).heap.size=w.heap.size+1+1+1:=by simp [s1]
 generalize wb.alloc (.cells #[.int .u64 0,.int .u64 0,.int .u64 0,.int .u64 0,.int .u64 0,.int .u64 0,.int .u64 0,.int .u64 0] 134)=wc at *
 have E0:=(B0.up n1).up n2
 rw [s1] at B2
 have N:=nxt (nxt n0 n1) n2
 have hac:=fun k (hk:k≤4)=>ac_bd (d:=fun i=>D (p+i)) hn hs k hk (fun j hj=>hD (p+j) (by omega))
 clear B0 n0 n1 n2 s0 s1 s2
 go_loopw [9,14] (fun c i wr=>∃ k:Nat,k≤4∧i = .int .i64 k∧c = .int .u64 (ac n s (fun i=>D (p+i)) k)∧Blk wr w.heap.size .u64 (c8 (at8 p n s D k))∧Blk wr (w.heap.size+1+1) .u64 [0,0,0,0,0,0,0,0]∧Below w.heap.size w wr) (fun _ i _=>4 - (intOf i).toNat)
 case atStart=>exact ⟨0,by omega,rfl,rfl,by rw [at8_zero];exact E0,B2,N⟩
 case round =>
  clear E0 B2 N
  obtain ⟨k,hk,rfl,rfl,hB,hR,hN⟩:=hrel
  by_cases hlt:k < 4
  ·have IX := idx4 s k hlt
   have sk:=hs k hlt
   have dk:=hD (p+k) (by omega)
   have ck:=hac k hk
   have ml:=mul_word hn sk
   have e1:ac n s (fun i=>D (p+i)) (k+1)=(ac n s (fun i=>D (p+i)) k+n*s k+D (p+k)) / 18446744073709551616:=rfl
   have hst:=at8_step p n s D k hp hlt
   have cy0:(c8 (at8 p n s D k)).getD (p+k) 0=D (p+k):=by rw [c8_get _ _ (by omega),at8_at _ _ _ _ _ _ (Nat.le_refl _)]
   have yl:(c8 (at8 p n s D k)).length=8:=c8_len _
   obtain ⟨h2,hh2⟩:∃ h2,h2=ac n s (fun i=>D (p+i)) (k+1):=⟨_,rfl⟩
   obtain ⟨l2,hl2⟩:∃ l2,l2=(ac n s (fun i=>D (p+i)) k+n*s k+D (p+k)) % 18446744073709551616:=⟨_,rfl⟩
   have E1:Hid (Value.int IntKind.u64 h2 = .int .u64 (ac n s (fun i=>D (p+i)) (k+1))):=by show _=_;rw [hh2]
   rw [← hl2] at hst
   obtain ⟨ys,hys⟩:∃ ys,ys=c8 (at8 p n s D k):=⟨_,rfl⟩
   rw [← hys] at hst cy0 hB yl
   have hst':=hide hst
   generalize ac n s (fun i=>D (p+i)) k=c0 at *
   have AP0:=fun W=>addProduct0 W c0 n (s k) ck hn sk
   have AA0:=fun W=>wideAdd_any W ((c0+n*s k) / 18446744073709551616) ((c0+n*s k) % 18446744073709551616) (D (p+k)) (by omega) (by omega) dk (by omega)
   have x1:((c0+n*s k) / 18446744073709551616*18446744073709551616+(c0+n*s k) % 18446744073709551616+D (p+k))=c0+n*s k+D (p+k):=by omega
   simp only [x1] at AA0
   rw [← e1,← hh2,← hl2] at AA0
   have cy:∀ W,Below wr.heap.size wr W→W.cell? ⟨w.heap.size,p+k,none⟩=some (.int .u64 (D (p+k))):=fun W n=>by rw [(hB.up n).cell (by omega),cy0]
   generalize (c0+n*s k) / 18446744073709551616=hi at *
   generalize (c0+n*s k) % 18446744073709551616=lo at *
   generalize s k=sv at *
   generalize D (p+k)=dv at *
   have CY:=hide cy
   have AP:Hid (∀ W,Below wr.heap.size wr W→Calls Tryz.prog 120 #[.agg #[.int .u64 0,.int .u64 c0],.int .u64 n,.int .u64 sv] W fun r w'=>r = .returned (.agg #[.int .u64 hi,.int .u64 lo])∧Below wr.heap.size wr w'∧Below W.heap.size W w'):=by
    intro W n
    refine (AP0 W).mono ?_
    rintro r w' ⟨rfl,n'⟩
    exact ⟨rfl,nxt n n',n'⟩
   have AA:Hid (∀ W,Below wr.heap.size wr W→Calls Tryz.prog 121 #[.agg #[.int .u64 hi,.int .u64 lo],.int .u64 dv] W fun r w'=>r = .returned (.agg #[.int .u64 h2,.int .u64 l2])∧Below wr.heap.size wr w'∧Below W.heap.size W w'):=by
    intro W n
    refine (AA0 W).mono ?_
    rintro r w' ⟨rfl,n'⟩
    exact ⟨rfl,nxt n n',n'⟩
   have k2:(k:Int) < 4:=by omega
   have kk:IntKind.i64.wrap ((p:Int)+(k:Int))=(p:Int)+(k:Int):=by rw [IntKind.wrap_i64];omega
   have kl:(p:Int)+(k:Int) < 8:=by omega
   have k0:(0:Int)≤(p:Int)+(k:Int):=by omega
   have kt:((p:Int)+(k:Int)).toNat=p+k:=by omega
   have nd:Below wr.heap.size wr wr.drew:=(Below.refl _ _).drew
   clear AP0 AA0 e1 hst x1 hh2 hl2 ml cy cy0
   go_upto_region 5 with fail
   go_cut [12] from 15 to 37 (fun v wc=>InBox wr h2 l2 v wc)
   case first =>
    go_region_held3 (fun W=>W.cell? ⟨w.heap.size,p+k,none⟩=some (.int .u64 dv))
     (first | exact (unhide CY) _ nd | exact (unhide CY) _ (bA nd _) | exact (unhide CY) _ ns | exact (unhide CY) _ (bA ns _) | exact (unhide CY) _ nm | exact (unhide CY) _ (bA nm _) | exact (unhide CY) _ (nm.setCell hq _) | exact (unhide CY) _ ((nm.setCell hq _).setCell hq _))
     (first
      | (go_at_call 120;refine ((unhide AP) _ (by first | exact nd | exact bA nd _)).mono ?_;rintro r ws ⟨rfl,ns,ns'⟩;(try (have Z1:Blk ws wr.heap.size .u64 [0,0]:=upb' ns' (blk_box2O _ _ _ 0 0))))
      | (go_at_call 121;refine ((unhide AA) _ (by first | exact ns | exact bA ns _)).mono ?_;rintro r wm ⟨rfl,nm,nm'⟩;(try first | (have Z2:Blk wm wr.heap.size .u64 [0,0]:=upb' nm' Z1;(have hq:wr.heap.size≤wr.heap.size:=Nat.le_refl _);obtain ⟨⟨z0,z1⟩,⟨f0,f1⟩⟩:=Z2.f2) | (have Z2:Blk wm ws.heap.size .u64 [0,0]:=upb' nm' (blk_box2O _ _ _ 0 0);(have hq:wr.heap.size≤ws.heap.size:=ns.size);obtain ⟨⟨z0,z1⟩,⟨f0,f1⟩⟩:=Z2.f2))))
    all_goals
     go_wp2_with fail
     go_meet
     first
      | (with_reducible refine inBox1 nm h2 l2)
      | (with_reducible refine inBox2 nm h2 l2 Z2 hq)
   case rest =>
    obtain ⟨q,rfl,hq,Bq,nc⟩:=hcut
    have hBc:=hB.up nc
    have hRc:=hR.up nc
    have hNc:=nxt hN nc
    have hlt':=hB.lt
    obtain ⟨⟨z0,z1⟩,_⟩:=Bq.f2
    have cy:=(unhide CY) wc nc
    have fy:=hBc.free (p+k)
    have S0:=hBc.store (p+k) l2
    rw [hst'.out] at S0
    have S1:=hRc.of_block (w':=wc.setCell ⟨w.heap.size,p+k,none⟩ (.int .u64 l2)) (heap_setCell_other _ ⟨w.heap.size,p+k,none⟩ _ _ (by show w.heap.size+1+1≠w.heap.size;omega))
    have S2:Below w.heap.size w (wc.setCell ⟨w.heap.size,p+k,none⟩ (.int .u64 l2)):=hNc.setCell (Nat.le_refl _) _
    clear hBc hRc hNc hB hR hN Bq nc AP AA CY nd hst'
    go_wp2
    go_region
    go_wp2
    go_roundw
    case rel=>exact ⟨k+1,by omega,by go_num,E1.out,S0.drew,S1.drew,S2.drew⟩
    case measure=>simp [intOf];omega
  ·obtain rfl : k = 4 := by omega
   have d4:=hD (p+4) (by omega)
   have c4b:=hac 4 (by omega)
   have cy:wr.cell? ⟨w.heap.size,p+4,none⟩=some (.int .u64 (D (p+4))):=by rw [hB.cell (by rw [c8_len];omega),c8_get _ _ (by omega),at8_at _ _ _ _ _ _ (Nat.le_refl _)]
   have fy:=hB.free (p+4)
   have S0:=hB.store (p+4) (D (p+4)+ac n s (fun i=>D (p+i)) 4)
   rw [c8_set (at8 p n s D 4) (adT p n s D) (p+4) _ (by omega) (fun j hj=>by unfold adT;by_cases e:j=p+4 <;> simp [e])] at S0
   have S1:=hR.of_block (w':=wr.setCell ⟨w.heap.size,p+4,none⟩ (.int .u64 (D (p+4)+ac n s (fun i=>D (p+i)) 4))) (heap_setCell_other _ ⟨w.heap.size,p+4,none⟩ _ _ (by show w.heap.size+1+1≠w.heap.size;omega))
   have S2:Below w.heap.size w (wr.setCell ⟨w.heap.size,p+4,none⟩ (.int .u64 (D (p+4)+ac n s (fun i=>D (p+i)) 4))):=hN.setCell (Nat.le_refl _) _
   have kk:IntKind.i64.wrap ((p:Int)+4)=(p:Int)+4:=by rw [IntKind.wrap_i64];omega
   have kl:(p:Int)+4 < 8:=by omega
   have k0:(0:Int)≤(p:Int)+4:=by omega
   have kt:((p:Int)+4).toNat=p+4:=by omega
   obtain ⟨f,hf⟩:∃ f,f=adT p n s D:=⟨_,rfl⟩
   have HF:Hid (f=adT p n s D):=hf
   rw [← hf] at S0
   clear hf
   generalize ac n s (fun i=>D (p+i)) 4=c at *
   generalize D (p+4)=dv at *
   have ww:IntKind.u64.wrap (dv+c)=dv+c:=by rw [IntKind.wrap_u64];omega
   obtain ⟨⟨p0,p1,p2,p3,p4,p5,p6,p7⟩,_⟩:=S0.f8O
   obtain ⟨⟨r0,r1,r2,r3,r4,r5,r6,r7⟩,⟨g0,g1,g2,g3,g4,g5,g6,g7⟩⟩:=S1.f8O
   clear hB hR hN S0 S1 hac
   go_wp2
   refine bodyPost_ret (v:=ag8O f) (by simp [ag8O,results,Tryz.results100,go_sem,r0,r1,r2,r3,r4,r5,r6,r7]) rfl ⟨by rw [HF.out];rfl,?_⟩
   exact below_set8O S2 (by omega) _ _ _ _ _ _ _ _
end Go.Proofs.YtnpolopcgmjmnaaGreatDoor
namespace Go.Proofs.YtnpolopcgmjmnaaGreatDoor
set_option maxRecDepth 100000
open Go.RowKit
def At8 (f:Nat→Int) (ys:List Int):Prop:=ys.length=8∧∀ j,j < 8→ys.getD j 0=f j
theorem At8.all {f:Nat→Int} {ys:List Int} (h:At8 f ys):ys=c8 f:=by
 refine eq_of_getD (by rw [h.1];rfl) (fun i hi=>?_)
 rw [h.1] at hi
 rw [h.2 i hi,c8_get f i hi]
theorem At8.wv {a:Nat→Int} {k:Nat} {ys:List Int} (h:At8 (wv a k) ys) (v:Int) (hv:v=Go.Proofs.YtnpolopcgmjmnaaGreatDoor.wv a k (k / 8)+a k*256 ^ (k % 8)):At8 (Go.Proofs.YtnpolopcgmjmnaaGreatDoor.wv a (k+1)) (ys.set (k / 8) v):=by
 refine ⟨by simpa using h.1,fun j hj=>?_⟩
 rw [Go.Proofs.YtnpolopcgmjmnaaGreatDoor.wv]
 by_cases e:k / 8=j
 ·subst e
  rw [getD_set_self _ _ _ (by rw [h.1];exact hj),if_pos rfl,hv]
 ·rw [getD_set_ne _ _ _ _ e,if_neg e,h.2 j hj];omega
theorem At8.zero (a:Nat→Int):At8 (Go.Proofs.YtnpolopcgmjmnaaGreatDoor.wv a 0) [0,0,0,0,0,0,0,0]:=by
 refine ⟨rfl,fun j hj=>?_⟩
 obtain rfl | rfl | rfl | rfl | rfl | rfl | rfl | rfl:j=0∨j=1∨j=2∨j=3∨j=4∨j=5∨j=6∨j=7:=by omega
 all_goals rfl
set_option maxHeartbeats 4000000 in
set_option maxRecDepth 100000 in
theorem readDouble_any (w : World) (g : Nat) (a : Option Addr) (cap : Nat) (xs : List Int) (hr : Rd w g a .u8 xs) (hb : Byt xs) (hl : xs.length ≤ 64) (h0 : 0 < xs.length) :
  Calls Tryz.prog 78 #[.slice a xs.length cap] w fun e w'=>e = .returned (ag8O (wv (fun j=>xs.getD j 0) xs.length))∧Below w.heap.size w w':=by
 obtain ⟨off,rfl,hc⟩:=hr h0
 have hg:=hr.lt h0
 have hA:Bt (fun j=>xs.getD j 0):=hb
 have B0:=(blk_box8 w .u64 134 0 0 0 0 0 0 0 0).up ((Below.refl _ _).alloc (Nat.le_refl _) (.cells #[.int .u64 0,.int .u64 0,.int .u64 0,.int .u64 0,.int .u64 0,.int .u64 0,.int .u64 0,.int .u64 0] 134))
 have B1:Blk ((w.alloc (.cells #[.int .u64 0,.int .u64 0,.int .u64 0,.int .u64 0,.int .u64 0,.int .u64 0,.int .u64 0,.int .u64 0] 134)).alloc (.cells #[.int .u64 0,.int .u64 0,.int .u64 0,.int .u64 0,.int .u64 0,.int .u64 0,.int .u64 0,.int .u64 0] 134)) (w.heap.size+1) .u64 [0,0,0,0,0,0,0,0]:=by
  have:=blk_box8 (w.alloc (.cells #[.int .u64 0,.int .u64 0,.int .u64 0,.int .u64 0,.int .u64 0,.int .u64 0,.int .u64 0,.int .u64 0] 134)) .u64 134 0 0 0 0 0 0 0 0
  simpa using this
 have N0:Below w.heap.size w ((w.alloc (.cells #[.int .u64 0,.int .u64 0,.int .u64 0,.int .u64 0,.int .u64 0,.int .u64 0,.int .u64 0,.int .u64 0] 134)).alloc (.cells #[.int .u64 0,.int .u64 0,.int .u64 0,.int .u64 0,.int .u64 0,.int .u64 0,.int .u64 0,.int .u64 0] 134)) :=
  ((Below.refl _ _).alloc (Nat.le_refl _) _).alloc (by simp) _
 go_enter Tryz.func78,Tryz.ntmps78
 go_wp2
 generalize ((w.alloc (.cells #[.int .u64 0,.int .u64 0,.int .u64 0,.int .u64 0,.int .u64 0,.int .u64 0,.int .u64 0,.int .u64 0] 134)).alloc (.cells #[.int .u64 0,.int .u64 0,.int .u64 0,.int .u64 0,.int .u64 0,.int .u64 0,.int .u64 0,.int .u64 0] 134))=wa at *
 go_loopw [8] (fun i wr=>∃ (k:Nat) (ys:List Int),k≤xs.length∧i = .int .i64 k∧At8 (wv (fun j=>xs.getD j 0) k) ys∧Blk wr w.heap.size .u64 [0,0,0,0,0,0,0,0]∧Blk wr (w.heap.size+1) .u64 ys∧Below w.heap.size w wr) (fun i _=>xs.length - (intOf i).toNat)
 case atStart=>exact ⟨0,_,by omega,rfl,At8.zero _,B0,B1,N0⟩
 case round =>
  clear B0 B1 N0
  obtain ⟨k,ys,hk,rfl,hcp,hB0,hB,hN⟩:=hrel
  by_cases hlt:k < xs.length
  ·have hsm := wv_cur hA k
   have hst:∀ v,v=wv (fun j=>xs.getD j 0) k (k / 8)+xs.getD k 0*256 ^ (k % 8)→At8 (wv (fun j=>xs.getD j 0) (k+1)) (ys.set (k / 8) v):=fun v hv=>hcp.wv v hv
   obtain ⟨q,hq⟩:∃ q:Nat,k / 8=q:=⟨_,rfl⟩
   rw [hq] at hsm hst
   have hq4:q < 8:=by omega
   have hz:=(wv_lt hA k q)
   have hcx:wr.cell? ⟨g,off+k,none⟩=some (.int .u8 (xs.getD k 0)):=(hN.cell (p:=⟨g,off+k,none⟩) hg).trans (hc k hlt)
   have hcy:wr.cell? ⟨w.heap.size+1,q,none⟩=some (.int .u64 (wv (fun j=>xs.getD j 0) k q)):=by rw [hB.cell (by rw [hcp.1];exact hq4),hcp.2 q hq4]
   have hfy:=hB.free q
   have hd:=hb k
   have q1:(k:Int) / 8=(q:Int):=by omega
   have q2:(q:Int) < 8:=by omega
   have k2:(k:Int) < (xs.length:Int):=by omega
   have hSt:=fun v=>hB.store q v
   have hS0:=fun v=>hB0.of_block (w':=wr.setCell ⟨w.heap.size+1,q,none⟩ (.int .u64 v)) (heap_setCell_other wr ⟨w.heap.size+1,q,none⟩ w.heap.size _ (by show w.heap.size≠w.heap.size+1;omega))
   have hSn:∀ v,Below w.heap.size w (wr.setCell ⟨w.heap.size+1,q,none⟩ v):=fun v=>hN.setCell (by show w.heap.size≤w.heap.size+1;omega) v
   generalize xs.getD k 0=x at *
   generalize wv (fun j=>xs.getD j 0) k q=z at *
   clear hc hcp hB0 hB hN hb hr hA hg
   rcases (show k % 8=0∨k % 8=1∨k % 8=2∨k % 8=3∨k % 8=4∨k % 8=5∨k % 8=6∨k % 8=7 by omega) with h4 | h4 | h4 | h4 | h4 | h4 | h4 | h4
   ·have r1 : (k : Int) % 8 = 0 := by omega
    rw [h4] at hsm hst
    have e:=or64 z x 0 1 (by decide) hz.1 (by simpa using hsm) hd.1 (by omega) (by decide)
    simp only [Int.natCast_one,Int.mul_one] at e
    have e':bits BinOp.or IntKind.u64 z x=z+x:=e
    have R:=hst (bits BinOp.or IntKind.u64 z x) (by rw [e'];simp)
    have S:=hSt (bits BinOp.or IntKind.u64 z x)
    have S0:=hS0 (bits BinOp.or IntKind.u64 z x)
    clear hst hSt hS0 e hsm e'
    go_wp2
    go_region
    go_wp2
    go_roundw
    case rel=>exact ⟨k+1,_,by omega,by go_num,R,S0.drew,S.drew,(hSn _).drew⟩
    case measure=>simp [intOf];omega
   ·have r1 : (k : Int) % 8 = 1 := by omega
    rw [h4] at hsm hst
    have e:=or64 z x 8 256 (by decide) hz.1 (by simpa using hsm) hd.1 (by omega) (by decide)
    have e':bits BinOp.or IntKind.u64 z (x*256)=z+x*256:=e
    have R:=hst (bits BinOp.or IntKind.u64 z (x*256)) (by rw [e'];simp)
    have S:=hSt (bits BinOp.or IntKind.u64 z (x*256))
    have S0:=hS0 (bits BinOp.or IntKind.u64 z (x*256))
    clear hst hSt hS0 e hsm e'
    go_wp2
    go_region
    go_wp2
    go_roundw
    case rel=>exact ⟨k+1,_,by omega,by go_num,R,S0.drew,S.drew,(hSn _).drew⟩
    case measure=>simp [intOf];omega
   ·have r1 : (k : Int) % 8 = 2 := by omega
    rw [h4] at hsm hst
    have e:=or64 z x 16 65536 (by decide) hz.1 (by simpa using hsm) hd.1 (by omega) (by decide)
    have e':bits BinOp.or IntKind.u64 z (x*65536)=z+x*65536:=e
    have R:=hst (bits BinOp.or IntKind.u64 z (x*65536)) (by rw [e'];simp)
    have S:=hSt (bits BinOp.or IntKind.u64 z (x*65536))
    have S0:=hS0 (bits BinOp.or IntKind.u64 z (x*65536))
    clear hst hSt hS0 e hsm e'
    go_wp2
    go_region
    go_wp2
    go_roundw
    case rel=>exact ⟨k+1,_,by omega,by go_num,R,S0.drew,S.drew,(hSn _).drew⟩
    case measure=>simp [intOf];omega
   ·have r1 : (k : Int) % 8 = 3 := by omega
    rw [h4] at hsm hst
    have e:=or64 z x 24 16777216 (by decide) hz.1 (by simpa using hsm) hd.1 (by omega) (by decide)
    have e':bits BinOp.or IntKind.u64 z (x*16777216)=z+x*16777216:=e
    have R:=hst (bits BinOp.or IntKind.u64 z (x*16777216)) (by rw [e'];simp)
    have S:=hSt (bits BinOp.or IntKind.u64 z (x*16777216))
    have S0:=hS0 (bits BinOp.or IntKind.u64 z (x*16777216))
    clear hst hSt hS0 e hsm e'
    go_wp2
    go_region
    go_wp2
    go_roundw
    case rel=>exact ⟨k+1,_,by omega,by go_num,R,S0.drew,S.drew,(hSn _).drew⟩
    case measure=>simp [intOf];omega
   ·have r1 : (k : Int) % 8 = 4 := by omega
    rw [h4] at hsm hst
    have e:=or64 z x 32 4294967296 (by decide) hz.1 (by simpa using hsm) hd.1 (by omega) (by decide)
    have e':bits BinOp.or IntKind.u64 z (x*4294967296)=z+x*4294967296:=e
    have R:=hst (bits BinOp.or IntKind.u64 z (x*4294967296)) (by rw [e'];simp)
    have S:=hSt (bits BinOp.or IntKind.u64 z (x*4294967296))
    have S0:=hS0 (bits BinOp.or IntKind.u64 z (x*4294967296))
    clear hst hSt hS0 e hsm e'
    go_wp2
    go_region
    go_wp2
    go_roundw
    case rel=>exact ⟨k+1,_,by omega,by go_num,R,S0.drew,S.drew,(hSn _).drew⟩
    case measure=>simp [intOf];omega
   ·have r1 : (k : Int) % 8 = 5 := by omega
    rw [h4] at hsm hst
    have e:=or64 z x 40 1099511627776 (by decide) hz.1 (by simpa using hsm) hd.1 (by omega) (by decide)
    have e':bits BinOp.or IntKind.u64 z (x*1099511627776)=z+x*1099511627776:=e
    have R:=hst (bits BinOp.or IntKind.u64 z (x*1099511627776)) (by rw [e'];simp)
    have S:=hSt (bits BinOp.or IntKind.u64 z (x*1099511627776))
    have S0:=hS0 (bits BinOp.or IntKind.u64 z (x*1099511627776))
    clear hst hSt hS0 e hsm e'
    go_wp2
    go_region
    go_wp2
    go_roundw
    case rel=>exact ⟨k+1,_,by omega,by go_num,R,S0.drew,S.drew,(hSn _).drew⟩
    case measure=>simp [intOf];omega
   ·have r1 : (k : Int) % 8 = 6 := by omega
    rw [h4] at hsm hst
    have e:=or64 z x 48 281474976710656 (by decide) hz.1 (by simpa using hsm) hd.1 (by omega) (by decide)
    have e':bits BinOp.or IntKind.u64 z (x*281474976710656)=z+x*281474976710656:=e
    have R:=hst (bits BinOp.or IntKind.u64 z (x*281474976710656)) (by rw [e'];simp)
    have S:=hSt (bits BinOp.or IntKind.u64 z (x*281474976710656))
    have S0:=hS0 (bits BinOp.or IntKind.u64 z (x*281474976710656))
    clear hst hSt hS0 e hsm e'
    go_wp2
    go_region
    go_wp2
    go_roundw
    case rel=>exact ⟨k+1,_,by omega,by go_num,R,S0.drew,S.drew,(hSn _).drew⟩
    case measure=>simp [intOf];omega
   ·have r1 : (k : Int) % 8 = 7 := by omega
    rw [h4] at hsm hst
    have e:=or64 z x 56 72057594037927936 (by decide) hz.1 (by simpa using hsm) hd.1 (by omega) (by decide)
    have e':bits BinOp.or IntKind.u64 z (x*72057594037927936)=z+x*72057594037927936:=e
    have R:=hst (bits BinOp.or IntKind.u64 z (x*72057594037927936)) (by rw [e'];simp)
    have S:=hSt (bits BinOp.or IntKind.u64 z (x*72057594037927936))
    have S0:=hS0 (bits BinOp.or IntKind.u64 z (x*72057594037927936))
    clear hst hSt hS0 e hsm e'
    go_wp2
    go_region
    go_wp2
    go_roundw
    case rel=>exact ⟨k+1,_,by omega,by go_num,R,S0.drew,S.drew,(hSn _).drew⟩
    case measure=>simp [intOf];omega
  ·obtain rfl : k = xs.length := by omega
   have hY:=hcp.all
   subst hY
   obtain ⟨f,hf⟩:∃ f,f=wv (fun j=>xs.getD j 0) xs.length:=⟨_,rfl⟩
   have HF:Hid (f=wv (fun j=>xs.getD j 0) xs.length):=hf
   rw [← hf] at hB
   obtain ⟨⟨p0,p1,p2,p3,p4,p5,p6,p7⟩,_⟩:=hB.f8O
   obtain ⟨⟨r0,r1,r2,r3,r4,r5,r6,r7⟩,⟨g0,g1,g2,g3,g4,g5,g6,g7⟩⟩:=hB0.f8O
   clear hf hcp
   go_wp2
   refine bodyPost_ret (v:=ag8O f) (by simp [ag8O,results,Tryz.results78,go_sem,r0,r1,r2,r3,r4,r5,r6,r7]) rfl ⟨by rw [HF.out],?_⟩
   exact below_set8O hN (Nat.le_refl _) _ _ _ _ _ _ _ _
end Go.Proofs.YtnpolopcgmjmnaaGreatDoor
namespace Go.Proofs.YtnpolopcgmjmnaaGreatDoor
set_option maxRecDepth 100000
open Go.RowKit
end Go.Proofs.YtnpolopcgmjmnaaGreatDoor
