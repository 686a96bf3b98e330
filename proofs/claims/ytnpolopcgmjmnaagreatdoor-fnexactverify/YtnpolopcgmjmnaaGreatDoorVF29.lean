import Derived.Test.YtnpolopcgmjmnaaGreatDoorVF28
namespace Go.Proofs.YtnpolopcgmjmnaaGreatDoor
set_option maxRecDepth 100000
open Go.RowKit
def sf (a b:Nat→Int) (i:Nat):Int:=if i < 16 then a i+b i else 0
theorem sf_in {a b:Nat→Int} (ha:L16 a) (hb:L16 b):In60 (sf a b):=fun j=>by
 unfold sf
 by_cases h:j < 16
 ·rw [if_pos h]
  have:=ha j h
  have:=hb j h
  omega
 ·rw [if_neg h];omega
theorem sf_val (a b:Nat→Int):s16 (sf a b) 16=s16 a 16+s16 b 16:=by
 rw [s16_congr 16 (u:=sf a b) (v:=fun k=>a k+1*b k) (fun j hj=>by simp [sf,hj]),s16_lin];omega
set_option maxHeartbeats 2000000 in
theorem l2Add_any (w : World) (a b : Nat → Int) (ha : L16 a) (hb : L16 b) :
  Calls Tryz.prog 43 #[ag16 a,ag16 b] w fun r w'=>∃ t,r = .returned (ag16 t)∧L16 t∧s16 t 16 % PP=(s16 a 16+s16 b 16) % PP∧Below w.heap.size w w':=by
 show Calls Tryz.prog 43 #[.agg (a16 a),.agg (a16 b)] w fun r w'=>∃ t,r = .returned (.agg (a16 t))∧L16 t∧s16 t 16 % PP=(s16 a 16+s16 b 16) % PP∧Below w.heap.size w w'
 have B0:Blk (w.alloc (.cells (a16 a) 36)) w.heap.size .i64 (ls16 a):=blk16 w 36 a
 have n0:Below w.heap.size w (w.alloc (.cells (a16 a) 36)):=(Below.refl _ _).alloc (Nat.le_refl _) _
 have s0:(w.alloc (.cells (a16 a) 36)).heap.size=w.heap.size+1:=by simp
 have B1:∀ w:World,Blk (w.alloc (.cells (a16 b) 36)) w.heap.size .i64 (ls16 b):=fun w=>blk16 w 36 b
 have n1:∀ w:World,Below w.heap.size w (w.alloc (.cells (a16 b) 36)):=fun w=>(Below.refl _ _).alloc (Nat.le_refl _) _
 have s1:∀ w:World,(w.alloc (.cells (a16 b) 36)).heap.size=w.heap.size+1:=fun w=>by simp
 obtain ⟨A,hA⟩:∃ A,A=a16 a:=⟨_,rfl⟩
 obtain ⟨B,hB⟩:∃ A,A=a16 b:=⟨_,rfl⟩
 rw [← hA] at B0 n0 s0 ⊢
 simp only [← hB] at B1 n1 s1 ⊢
 clear hA hB
 go_enter Tryz.func43,Tryz.ntmps43
 go_wp2
 generalize w.alloc (.cells A 36)=wa at *
 have B1':=B1 wa
 have n1':=n1 wa
 have s1':=s1 wa
 rw [s0] at B1' s1'
 clear B1 n1 s1
 generalize wa.alloc (.cells B 36)=wb at *
 rw [z16]
 have B2:Blk (wb.alloc (.cells (a16 (fun _=>0)) 36)) wb.heap.size .i64 (ls16 (fun _=>0)):=blk16 wb 36 (fun _=>0)
 have n2:Below wb.heap.size wb (wb.alloc (.cells (a16 (fun _=>0)) 36)):=(Below.refl _ _).alloc (Nat.le_refl _) _
 rw [s1'] at B2
 generalize wb.alloc (.cells (a16 (fun _=>0)) 36)=wc at *
 have E0:=(B0.up n1').up n2
 have E1:=B1'.up n2
 have N:=nxt (nxt n0 n1') n2
 clear B0 B1' n0 n1' n2 s0 s1'
 go_loopw [5] (fun i wr=>∃ (k:Nat) (ys:List Int),k≤16∧i = .int .i64 k∧Up16 (sf a b) a ys k∧Blk wr w.heap.size .i64 ys∧Blk wr (w.heap.size+1) .i64 (ls16 b)∧Blk wr (w.heap.size+1+1) .i64 (ls16 (fun _=>0))∧Below w.heap.size w wr) (fun i _=>16 - (intOf i).toNat)
 case atStart=>exact ⟨0,_,by omega,rfl,Up16.zero _ _,E0,E1,B2,N⟩
 case round =>
  clear E0 E1 B2 N
  obtain ⟨j,ys,hj,rfl,hU,hF,hS,hR,hN⟩:=hrel
  by_cases hjt:j < 16
  ·have j2 : (j : Int) < 16 := by omega
   have c1:=hF.cell (i:=j) (by rw [hU.1];exact hjt)
   have c2:=hS.cell (i:=j) (by rw [ls16_len];exact hjt)
   rw [hU.2.2 j (Nat.le_refl _) hjt] at c1
   rw [ls16_get _ hjt] at c2
   have ff:=hF.free j
   have w1:=ha j hjt
   have w2:=hb j hjt
   have R:=hU.step hjt
   have E:sf a b j=a j+b j:=if_pos hjt
   rw [E] at R
   have S:=fun v=>hF.store j v
   have SR:=fun v=>hide (hR.keep (g':=w.heap.size) (k:=j) (v:=v) (by omega))
   have SS:=fun v=>hide (hS.keep (g':=w.heap.size) (k:=j) (v:=v) (by omega))
   have Sn:∀ v,Below w.heap.size w (wr.setCell ⟨w.heap.size,j,none⟩ v):=fun v=>hN.setCell (Nat.le_refl _) v
   have x2:IntKind.i64.wrap (a j+b j)=a j+b j:=by rw [IntKind.wrap_i64];omega
   have R':=hide R
   clear hU hR hS hF hN R E
   generalize a j=d at *
   generalize b j=e at *
   go_wp2
   go_region
   go_wp2
   go_roundw
   case rel=>exact ⟨j+1,_,by omega,by go_num,R'.out,(S _).drew,(SS _).out.drew,(SR _).out.drew,(Sn _).drew⟩
   case measure=>simp [intOf];omega
  ·obtain rfl : j = 16 := by omega
   have hy:=hU.all
   subst hy
   clear hU hS
   have GI:=sf_in ha hb
   have K:=cry_ok GI
   have hl:=hR.lt
   obtain ⟨t,hF⟩:=hF
   obtain ⟨t2,hR⟩:=hR
   have SR:∀ w2,Below wr.heap.size wr w2→((w2.setRow (w.heap.size+1+1) (a16 (cry (sf a b)))).heap[w.heap.size+1+1]?)=some (.cells (a16 (cry (sf a b))) t2 (0,0)):=fun w2 h2=>setRow_heap _ _ _ _ _ _ ((h2.block _ hl).trans hR)
   have SN:∀ w2,Below wr.heap.size wr w2→Below w.heap.size w (w2.setRow (w.heap.size+1+1) (a16 (cry (sf a b)))):=fun w2 h2=>(nxt hN h2).trans ⟨rfl,rfl,rfl,by simp,fun i hi=>setRow_other w2 _ i _ (by omega)⟩
   go_upto_region 5 with fail
   go_wp2_with (first
    | (refine wpList_load_row rfl 36 (.tmp 2) rfl w.heap.size rfl t (a16 (sf a b)) (0,0) (.array 16 2) hF Go.Proofs.YtnpolopcgmjmnaaGreatDoor.u50 rfl (by rw [a16_size];exact i50) ?_)
    | (go_at_call 42;refine (l2Carry_any _ (sf a b) GI).mono ?_;rintro r w2 ⟨rfl,n2⟩)
    | (refine wpList_store_row rfl 36 (.tmp 4) (.tmp 20) rfl (w.heap.size+1+1) (a16 (cry (sf a b))) rfl rfl t2 (a16 (fun _=>0)) ((n2.block _ hl).trans hR) (by rw [a16_size];exact i50) (by rw [a16_size,a16_size]) (a16_one _) ?_))
   exact bodyPost_ret (v := .agg (a16 (cry (sf a b)))) (results_cell_row Tryz.results43 _ _ (w.heap.size+1+1) t2 (a16 (cry (sf a b))) (0,0) (.array 16 2) rfl (SR _ n2) Go.Proofs.YtnpolopcgmjmnaaGreatDoor.u50 rfl (by rw [a16_size];exact i50)) rfl ⟨_,rfl,K.1,by rw [K.2,sf_val],SN _ n2⟩
set_option maxHeartbeats 2000000 in
theorem l2SmallB_any (w:World) (n:Int) (hn:0≤n∧n < 1048576) :
  Calls Tryz.prog 21 #[.int .i64 n] w fun r w'=>∃ t,r = .returned (ag16 t)∧L16 t∧s16 t 16 % PP=n % PP∧Below w.heap.size w w':=by
 show Calls Tryz.prog 21 #[.int .i64 n] w fun r w'=>∃ t,r = .returned (.agg (a16 t))∧L16 t∧s16 t 16 % PP=n % PP∧Below w.heap.size w w'
 have B0:Blk (w.alloc (.cells (a16 (fun _=>0)) 36)) w.heap.size .i64 (ls16 (fun _=>0)):=blk16 w 36 (fun _=>0)
 have n0:Below w.heap.size w (w.alloc (.cells (a16 (fun _=>0)) 36)):=(Below.refl _ _).alloc (Nat.le_refl _) _
 have s0:(w.alloc (.cells (a16 (fun _=>0)) 36)).heap.size=w.heap.size+1:=by simp
 go_enter Tryz.func21,Tryz.ntmps21
 go_upto_region 1 with fail
 rw [z16]
 generalize w.alloc (.cells (a16 (fun _=>0)) 36)=wa at *
 have B1:Blk (wa.alloc (.cells (a16 (fun _=>0)) 36)) wa.heap.size .i64 (ls16 (fun _=>0)):=blk16 wa 36 (fun _=>0)
 have n1:Below wa.heap.size wa (wa.alloc (.cells (a16 (fun _=>0)) 36)):=(Below.refl _ _).alloc (Nat.le_refl _) _
 rw [s0] at B1
 have E0:=B0.up n1
 have N:=nxt n0 n1
 go_upto_region 2 with fail
 rw [z16]
 generalize wa.alloc (.cells (a16 (fun _=>0)) 36)=wb at *
 clear B0 n0 n1
 have c0:wb.cell? ⟨w.heap.size+1,0,none⟩=some (.int .i64 0):=by rw [B1.cell (i:=0) (by rw [ls16_len];omega),ls16_get _ (by omega)]
 have f0:=B1.free 0
 have S:=B1.store 0 n
 rw [ls16_sml] at S
 have S1:=E0.keep (g':=w.heap.size+1) (k:=0) (v := .int .i64 n) (by omega)
 have Sn:Below w.heap.size w (wb.setCell ⟨w.heap.size+1,0,none⟩ (.int .i64 n)):=N.setCell (by show w.heap.size≤w.heap.size+1;omega) _
 clear B1 E0 N
 go_upto_region 3 with fail
 generalize wb.setCell ⟨w.heap.size+1,0,none⟩ (.int .i64 n)=wc at *
 have GI:In60 (sml n):=fun j=>by unfold sml;split <;> omega
 have K:=cry_ok GI
 have hl:=S1.lt
 obtain ⟨t,hF⟩:=S
 obtain ⟨t2,hR⟩:=S1
 have SR:∀ w2,Below wc.heap.size wc w2→((w2.setRow w.heap.size (a16 (cry (sml n)))).heap[w.heap.size]?)=some (.cells (a16 (cry (sml n))) t2 (0,0)):=fun w2 h2=>setRow_heap _ _ _ _ _ _ ((h2.block _ hl).trans hR)
 have SN:∀ w2,Below wc.heap.size wc w2→Below w.heap.size w (w2.setRow w.heap.size (a16 (cry (sml n)))):=fun w2 h2=>(nxt Sn h2).trans ⟨rfl,rfl,rfl,by simp,fun i hi=>setRow_other w2 _ i _ (by omega)⟩
 go_wp2_with (first
  | (refine wpList_load_row rfl 36 (.tmp 3) rfl (w.heap.size+1) rfl t (a16 (sml n)) (0,0) (.array 16 2) hF Go.Proofs.YtnpolopcgmjmnaaGreatDoor.u50 rfl (by rw [a16_size];exact i50) ?_)
  | (go_at_call 42;refine (l2Carry_any _ (sml n) GI).mono ?_;rintro r w2 ⟨rfl,n2⟩)
  | (refine wpList_store_row rfl 36 (.tmp 2) (.tmp 7) rfl w.heap.size (a16 (cry (sml n))) rfl rfl t2 (a16 (fun _=>0)) ((n2.block _ hl).trans hR) (by rw [a16_size];exact i50) (by rw [a16_size,a16_size]) (a16_one _) ?_))
 exact bodyPost_ret (v := .agg (a16 (cry (sml n)))) (results_cell_row Tryz.results21 _ _ w.heap.size t2 (a16 (cry (sml n))) (0,0) (.array 16 2) rfl (SR _ n2) Go.Proofs.YtnpolopcgmjmnaaGreatDoor.u50 rfl (by rw [a16_size];exact i50)) rfl ⟨_,rfl,K.1,by rw [K.2,sml_val],SN _ n2⟩
end Go.Proofs.YtnpolopcgmjmnaaGreatDoor
