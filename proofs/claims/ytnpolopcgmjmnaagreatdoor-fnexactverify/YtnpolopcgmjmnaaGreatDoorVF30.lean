import Derived.Test.YtnpolopcgmjmnaaGreatDoorVF29
namespace Go.Proofs.YtnpolopcgmjmnaaGreatDoor
set_option maxRecDepth 100000
open Go.RowKit
def of16 (a:Nat→Int) (i:Nat):Int:=a (2*i)+256*a (2*i+1)
theorem of16_val (a:Nat→Int):∀ k,s16 (of16 a) k=lsum a (2*k)
  | 0=>rfl
  | k + 1 => by
    have e:(65536:Int) ^ k=256 ^ (2*k):=by rw [Int.pow_mul];rfl
    rw [s16,of16_val a k,show 2*(k+1)=2*k+1+1 by omega,lsum,lsum,of16,e,Int.pow_succ]
    generalize (256:Int) ^ (2*k)=p
    grind
theorem of16_ok {a:Nat→Int} (h:Bt a):L16 (of16 a):=fun j _=>by
 have:=h (2*j)
 have:=h (2*j+1)
 unfold of16
 omega
set_option maxHeartbeats 4000000 in
theorem l2Of_any (w : World) (g : Nat) (a : Option Addr) (cap : Nat) (xs : List Int) (hr : Rd w g a .u8 xs) (hb : Byt xs) (hl : xs.length = 32) :
  Calls Tryz.prog 20 #[.slice a 32 cap] w fun r w'=>r = .returned (ag16 (of16 (fun j=>xs.getD j 0)))∧Below w.heap.size w w':=by
 show Calls Tryz.prog 20 #[.slice a 32 cap] w fun r w'=>r = .returned (.agg (a16 (of16 (fun j=>xs.getD j 0))))∧Below w.heap.size w w'
 obtain ⟨off,rfl,hc⟩:=hr (by omega)
 have hg:=hr.lt (by omega)
 have B0:Blk (w.alloc (.cells (a16 (fun _=>0)) 36)) w.heap.size .i64 (ls16 (fun _=>0)):=blk16 w 36 (fun _=>0)
 have n0:Below w.heap.size w (w.alloc (.cells (a16 (fun _=>0)) 36)):=(Below.refl _ _).alloc (Nat.le_refl _) _
 have s0:(w.alloc (.cells (a16 (fun _=>0)) 36)).heap.size=w.heap.size+1:=by simp
 obtain ⟨q,hq⟩:∃ q,q=of16 (fun j=>xs.getD j 0):=⟨_,rfl⟩
 rw [← hq]
 go_enter Tryz.func20,Tryz.ntmps20
 go_upto_region 1 with fail
 rw [z16]
 generalize w.alloc (.cells (a16 (fun _=>0)) 36)=wa at *
 have B1:Blk (wa.alloc (.cells (a16 (fun _=>0)) 36)) wa.heap.size .i64 (ls16 (fun _=>0)):=blk16 wa 36 (fun _=>0)
 have n1:Below wa.heap.size wa (wa.alloc (.cells (a16 (fun _=>0)) 36)):=(Below.refl _ _).alloc (Nat.le_refl _) _
 rw [s0] at B1
 have E0:=B0.up n1
 have N:=nxt n0 n1
 go_upto_region 2 with fail
 rw [z16]
 generalize wa.alloc (.cells (a16 (fun _=>0)) 36)=wb at *
 clear B0 n0 n1
 go_wp2
 go_loopw [4] (fun i wr=>∃ (k:Nat) (ys:List Int),k≤16∧i = .int .i64 k∧Up16 q (fun _=>0) ys k∧Blk wr w.heap.size .i64 (ls16 (fun _=>0))∧Blk wr (w.heap.size+1) .i64 ys∧Below w.heap.size w wr) (fun i _=>16 - (intOf i).toNat)
 case atStart=>exact ⟨0,_,by omega,rfl,Up16.zero _ _,E0,B1,N⟩
 case round =>
  clear E0 B1 N
  obtain ⟨j,ys,hj,rfl,hU,hR,hF,hN⟩:=hrel
  by_cases hjt:j < 16
  ·have j2 : (j : Int) < 16 := by omega
   have cf:=hF.cell (i:=j) (by rw [hU.1];exact hjt)
   have ff:=hF.free j
   have R:=hU.step hjt
   have E:q j=xs.getD (2*j) 0+256*xs.getD (2*j+1) 0:=by rw [hq];rfl
   rw [E] at R
   have c1:wr.cell? ⟨g,off+2*j,none⟩=some (.int .u8 (xs.getD (2*j) 0)):=(hN.cell (p:=⟨g,off+2*j,none⟩) hg).trans (hc (2*j) (by omega))
   have c2:wr.cell? ⟨g,off+(2*j+1),none⟩=some (.int .u8 (xs.getD (2*j+1) 0)):=(hN.cell (p:=⟨g,off+(2*j+1),none⟩) hg).trans (hc (2*j+1) (by omega))
   have w1:=hb (2*j)
   have w2:=hb (2*j+1)
   obtain ⟨m,hm⟩:∃ m:Nat,2*j+1=m:=⟨_,rfl⟩
   obtain ⟨p,hp⟩:∃ p:Nat,2*j=p:=⟨_,rfl⟩
   rw [hm] at c2 w2 R
   rw [hp] at c1 w1 R
   have p1:2*(j:Int)=(p:Int):=by omega
   have p2:IntKind.i64.wrap (p:Int)=(p:Int):=by rw [IntKind.wrap_i64];omega
   have p3:(p:Int) < 32:=by omega
   have m1:(p:Int)+1=(m:Int):=by omega
   have m2:IntKind.i64.wrap (m:Int)=(m:Int):=by rw [IntKind.wrap_i64];omega
   have m3:(m:Int) < 32:=by omega
   have S:=fun v=>hF.store j v
   have SR:=fun v=>hide (hR.keep (g':=w.heap.size+1) (k:=j) (v:=v) (by omega))
   have Sn:∀ v,Below w.heap.size w (wr.setCell ⟨w.heap.size+1,j,none⟩ v):=fun v=>hN.setCell (by show w.heap.size≤w.heap.size+1;omega) v
   generalize ys.getD j 0=f0 at cf
   have R':=hide R
   clear hU hR hF hN R E hc hb hr hg hm hp hl hq
   generalize xs.getD p 0=d at *
   generalize xs.getD m 0=e at *
   go_wp2
   go_region
   go_wp2
   go_roundw
   case rel=>exact ⟨j+1,_,by omega,by go_num,R'.out,(SR _).out.drew,(S _).drew,(Sn _).drew⟩
   case measure=>simp [intOf];omega
  ·obtain rfl : j = 16 := by omega
   have hy:=hU.all
   subst hy
   clear hU hq hc hr hb
   obtain ⟨t,hF⟩:=hF
   obtain ⟨t2,hR⟩:=hR
   have SR:((wr.setRow w.heap.size (a16 q)).heap[w.heap.size]?)=some (.cells (a16 q) t2 (0,0)):=setRow_heap _ _ _ _ _ _ hR
   have SN:Below w.heap.size w (wr.setRow w.heap.size (a16 q)):=hN.trans ⟨rfl,rfl,rfl,by simp,fun i hi=>setRow_other wr _ i _ (by omega)⟩
   go_upto_region 6 with fail
   go_wp2_with (first
    | (refine wpList_load_row rfl 36 (.tmp 3) rfl (w.heap.size+1) rfl t (a16 q) (0,0) (.array 16 2) hF Go.Proofs.YtnpolopcgmjmnaaGreatDoor.u50 rfl (by rw [a16_size];exact i50) ?_)
    | (refine wpList_store_row rfl 36 (.tmp 2) (.tmp 26) rfl w.heap.size (a16 q) rfl rfl t2 (a16 (fun _=>0)) hR (by rw [a16_size];exact i50) (by rw [a16_size,a16_size]) (a16_one _) ?_))
   exact bodyPost_ret (v := .agg (a16 q)) (results_cell_row Tryz.results20 _ _ w.heap.size t2 (a16 q) (0,0) (.array 16 2) rfl SR Go.Proofs.YtnpolopcgmjmnaaGreatDoor.u50 rfl (by rw [a16_size];exact i50)) rfl ⟨rfl,SN⟩
end Go.Proofs.YtnpolopcgmjmnaaGreatDoor
