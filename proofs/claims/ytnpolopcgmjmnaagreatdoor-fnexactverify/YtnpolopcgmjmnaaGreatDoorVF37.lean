import Derived.Test.YtnpolopcgmjmnaaGreatDoorVF36
import Derived.Deep.RegionWith
import Derived.Deep.RegionHeld3
namespace Go.Proofs.YtnpolopcgmjmnaaGreatDoor
set_option maxRecDepth 100000
open Go.RowKit
theorem Tryz.info2:(Tryz.prog.info? 2).map (fun i=>(i.zero,i.size,i.bytes))=some (some (.int .i64 0),1,8):=by kernel_rfl
set_option maxRecDepth 100000 in
set_option maxHeartbeats 4000000 in
theorem l1Mul_any (w : World) (g g' : Nat) (a b : Option Addr) (ca cb : Nat) (xs us : List Int) (ha : Rd w g a .u8 xs) (hb : Rd w g' b .u8 us) (hx : Byt xs) (hu : Byt us)
  (hn:xs.length≤4096) (hm:us.length≤4096) :
  Calls Tryz.prog 81 #[.slice a xs.length ca,.slice b us.length cb] w fun e w'=>∃ ys,Canon ys (bval xs*bval us)∧NewRow w.heap.size w' e .u8 ys∧Below w.heap.size w w':=by
 obtain ⟨i0,hi,hz0,hz1,hz2⟩:=info_parts Tryz.info5
 obtain ⟨j0,ji,jz0,jz1,jz2⟩:=info_parts Tryz.info2
 go_enter Tryz.func81,Tryz.ntmps81
 go_wp2_with (at_make;refine wpList_make_full _ rfl _ _ 165 rfl w.heap.size 2 j0 (.int .i64 0) 1 Tryz.underlying165 ji jz0 jz1 .i64 .i64 _ _ (xs.length+us.length+1) rfl rfl (by omega) (by omega) (by rw [jz2];omega) (by unfold maxLen;omega) (Nat.le_refl _) ?_;intro w1 hown hgrow)
 have hB0:=Blk.of_made hown
 have hN0:Below w.heap.size w w1:=(Below.refl _ _).grown hgrow (Nat.le_refl _) (by simp)
 clear hown hgrow
 go_loopw [6] (fun i wr=>∃ (k:Nat) (cs:List Int),k≤xs.length∧i = .int .i64 k∧ColTo xs us cs (xs.length+us.length+1) k 0∧Blk wr w.heap.size .i64 cs∧Below w.heap.size w wr) (fun i _=>xs.length - (intOf i).toNat)
 case atStart=>exact ⟨0,_,Nat.zero_le _,rfl,ColTo.zero xs us _,hB0,hN0⟩
 case round =>
  obtain ⟨k,cs,hk,rfl,hA,hB,hN⟩:=hrel
  by_cases hlt:k < xs.length
  ·go_wp2
   go_loopw [7] (fun i wq=>∃ (j:Nat) (qs:List Int),j≤us.length∧i = .int .i64 j∧ColTo xs us qs (xs.length+us.length+1) k j∧Blk wq w.heap.size .i64 qs∧Below w.heap.size w wq) (fun i _=>us.length - (intOf i).toNat)
   case atStart=>exact ⟨0,cs,Nat.zero_le _,rfl,hA,hB,hN⟩
   case round =>
    obtain ⟨j,qs,hj',rfl,hA2,hB2,hN2⟩:=hrel
    by_cases hjl:j < us.length
    ·have R := hA2.step hx hu (by omega)
     have hl:=hA2.1
     have qb:=hA2.2.1 (k+j)
     rw [if_neg (by omega)] at qb
     have c3:wr.cell? ⟨w.heap.size,k+j,none⟩=some (.int .i64 (qs.getD (k+j) 0)):=hB2.cell (by omega)
     have f3:=hB2.free (k+j)
     have S:=hB2.store (k+j) (qs.getD (k+j) 0+dig xs k*dig us j)
     have Sn:∀ n v,Below w.heap.size w ((wr.drewN n).setCell ⟨w.heap.size,k+j,none⟩ v):=fun n v=>(below_drewN hN2 n).setCell (Nat.le_refl _) v
     have d1:=dig_byt hx k
     have d2:=dig_byt hu j
     have u0:0≤dig xs k*dig us j:=Int.mul_nonneg d1.1 d2.1
     have u1:dig xs k*dig us j≤65025:=Int.le_trans (Int.mul_le_mul_of_nonneg_right d1.2 d2.1) (Int.mul_le_mul_of_nonneg_left d2.2 (by decide))
     have i1:(k:Int)+(j:Int) < (xs.length:Int)+(us.length:Int)+1:=by omega
     have i2:((k:Int)+(j:Int)).toNat=k+j:=by omega
     have i5:(0:Int)≤(k:Int)+(j:Int):=by omega
     have i6:(k:Int)+(j:Int) < ((xs.length+us.length+1:Nat):Int):=by omega
     have ha':=fun n=>ha.up (below_drewN hN2 n)
     have hb':=fun n=>hb.up (below_drewN hN2 n)
     have L1:∀ W,(∃ n,W=wr.drewN n)→Calls Tryz.prog 35 #[.slice a xs.length ca,.int .i64 (k:Int)] W fun e w'=>e = .returned (.int .i64 (dig xs k))∧w'=W:=by
      rintro W ⟨n,rfl⟩
      have:=l1Digit_any (wr.drewN n) g a ca xs (k:Int) (ha' n) hx (by omega) (by omega) (by omega)
      rwa [Int.toNat_natCast] at this
     have L2:∀ W,(∃ n,W=wr.drewN n)→Calls Tryz.prog 35 #[.slice b us.length cb,.int .i64 (j:Int)] W fun e w'=>e = .returned (.int .i64 (dig us j))∧w'=W:=by
      rintro W ⟨n,rfl⟩
      have:=l1Digit_any (wr.drewN n) g' b cb us (j:Int) (hb' n) hu (by omega) (by omega) (by omega)
      rwa [Int.toNat_natCast] at this
     have e1:IntKind.i64.wrap ((k:Int)+(j:Int))=(k:Int)+(j:Int):=by rw [IntKind.wrap_i64];omega
     have e2:IntKind.i64.wrap (dig xs k*dig us j)=dig xs k*dig us j:=by rw [IntKind.wrap_i64];omega
     have e3:IntKind.i64.wrap (qs.getD (k+j) 0+dig xs k*dig us j)=qs.getD (k+j) 0+dig xs k*dig us j:=by rw [IntKind.wrap_i64];omega
     have H1:=hide L1
     have H2:=hide L2
     have R':=hide R
     generalize dig xs k=x at *
     generalize dig us j=y at *
     generalize qs.getD (k+j) 0=p at *
     clear hA hB hN hA2 hB2 hN2 L1 L2 ha' hb' hl R
     go_wp2
     go_region_with (first | (go_at_call_of 35 (Value.slice a xs.length ca);refine ((unhide H1) _ ?_).mono ?_;exact ⟨1,rfl⟩;rintro e w' ⟨rfl,rfl⟩) | (go_at_call_of 35 (Value.slice b us.length cb);refine ((unhide H2) _ ?_).mono ?_;exact ⟨1,rfl⟩;rintro e w' ⟨rfl,rfl⟩))
     all_goals
      clear e1 e2 e3
      go_wp2
      go_roundw
      case rel=>exact ⟨j+1,_,by omega,by go_num,R'.out,S,Sn 1 _⟩
      case measure=>simp [intOf];omega
    ·obtain rfl : j = us.length := by omega
     have R':=hide hA2.row
     clear hA hB hN hA2
     go_wp2
     go_roundw
     case rel=>exact ⟨k+1,_,by omega,by go_num,R'.out,hB2,hN2⟩
     case measure=>simp [intOf];omega
  ·obtain rfl : k = xs.length := by omega
   have hlt2:=hB.lt
   have hs:=hN.size
   go_wp2_with (at_make;refine wpList_make_full _ rfl _ _ 22 rfl wr.heap.size 5 i0 (.int .u8 0) 1 Tryz.underlying22 hi hz0 hz1 .i64 .i64 _ _ (xs.length+us.length+1) rfl rfl (by omega) (by omega) (by rw [hz2];omega) (by unfold maxLen;omega) (Nat.le_refl _) ?_;intro w3 hown hgrow)
   have hB3:=Blk.of_made hown
   have hN3:Below wr.heap.size wr w3:=(Below.refl _ _).grown hgrow (Nat.le_refl _) (by simp)
   have HC:=hide hA
   have hcb:=hA.2.1
   have hcl:=hide hA.1
   clear hown hgrow hA
   obtain ⟨wv,rfl⟩:∃ wv,wv=wr:=⟨_,rfl⟩
   go_loopw [9,10] (fun q i wq=>∃ (t:Nat) (c:Int) (ys:List Int),t≤xs.length+us.length+1∧i = .int .i64 t∧q = .int .i64 c∧(0≤c∧c≤1099511627776)∧OutTo cs ys (xs.length+us.length+1) t c∧Blk wq wv.heap.size .u8 ys∧Below wv.heap.size wv wq) (fun _ i _=>xs.length+us.length+1 - (intOf i).toNat)
   case atStart=>exact ⟨0,0,_,Nat.zero_le _,rfl,rfl,⟨by omega,by omega⟩,⟨by simp,byt_zeros _,rfl⟩,hB3,hN3⟩
   case round =>
    obtain ⟨t,c,ys,ht,rfl,rfl,hc,hO,hBq,hNq⟩:=hrel
    by_cases htl:t < xs.length+us.length+1
    ·have R := hide (hO.step htl)
     have hyl:=hO.1
     have cb:=hcb t
     have cb2:cs.getD t 0≤266407425:=by
      have h2:=cb.2
      split at h2 <;> omega
     have cb1:=cb.1
     have c1:wr.cell? ⟨w.heap.size,t,none⟩=some (.int .i64 (cs.getD t 0)):=(hNq.cell (p:=⟨w.heap.size,t,none⟩) hlt2).trans (hB.cell (by rw [hcl.out];exact htl))
     have c2:wr.cell? ⟨wv.heap.size,xs.length+us.length+1 - 1 - t,none⟩=some (.int .u8 (ys.getD (xs.length+us.length+1 - 1 - t) 0)):=hBq.cell (by omega)
     have f2:=hBq.free (xs.length+us.length+1 - 1 - t)
     have S:=hBq.store (xs.length+us.length+1 - 1 - t) ((cs.getD t 0+c) % 256)
     have Sn:Below wv.heap.size wv (wr.setCell ⟨wv.heap.size,xs.length+us.length+1 - 1 - t,none⟩ (.int .u8 ((cs.getD t 0+c) % 256))):=hNq.setCell (Nat.le_refl _) _
     obtain ⟨p,hp⟩:∃ p:Nat,xs.length+us.length+1 - 1 - t=p:=⟨_,rfl⟩
     rw [hp] at c2 f2 S Sn R
     have p1:(xs.length:Int)+(us.length:Int)+1 - 1 - (t:Int)=(p:Int):=by omega
     have p1':(xs.length:Int)+(us.length:Int) - (t:Int)=(p:Int):=by omega
     have p2:(p:Int) < (xs.length:Int)+(us.length:Int)+1:=by omega
     have i1:(t:Int) < (xs.length:Int)+(us.length:Int)+1:=by omega
     generalize cs.getD t 0=x at *
     have m1:(x+c) % 256 % 256=(x+c) % 256:=by omega
     clear hB hN hO hBq hNq hp cb hcb hyl HC hcl
     go_wp2
     go_roundw
     case rel=>exact ⟨t+1,_,_,by omega,by go_num,rfl,⟨by omega,by omega⟩,R.out,S,Sn⟩
     case measure=>simp [intOf];omega
    ·obtain rfl : t = xs.length + us.length + 1 := by omega
     have V:=hide (hO.done hc.1 HC.out hx hu)
     have L:=hide hO.1
     have hyb:=hO.2.1
     clear hO hB hcb hcl HC
     go_wp2_with fail
     rw [← L.out]
     refine (l1Trim_any wr _ _ _ ys hBq.own0.rd hyb (by simp) (Nat.le_refl _) (by rw [L.out];omega)).mono ?_
     rintro e w4 ⟨zs,C,_,⟨a1,c1,g1,rfl,o1,q1,q2,q3⟩,n4⟩
     rw [V.out] at C
     have sq:=hNq.size
     have nn:=nxt (nxt hN hNq) n4
     go_wp2
     go_ret
     exact ⟨zs,C,⟨_,_,_,rfl,o1,q1,q2,by omega⟩,nn⟩
end Go.Proofs.YtnpolopcgmjmnaaGreatDoor
